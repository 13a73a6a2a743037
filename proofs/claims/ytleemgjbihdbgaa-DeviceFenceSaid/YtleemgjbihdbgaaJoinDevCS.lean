/- Joined: DevActK, DevActM, DevDo, DevCS. -/
import Derived.Test.YtleemgjbihdbgaaJoinDevActJ
import Derived.Test.YtleemgjbihdbgaaDevInsert
import Derived.Test.YtleemgjbihdbgaaJoinDevActC
/-
  The program's actor: a key is fenced: by contract.
-/
namespace Go.Proofs.Ytleemgjbihdbgaa
open Go.RowKit
set_option linter.unusedVariables false
set_option linter.unusedSimpArgs false

section
variable {w w1 : World} {B b : Nat} {vS vC vK vF : Value} {f : Nat → Value} {D : Dev} {node : Int}
theorem apart_none {v : Option Nat} {row : Option Nat} (h : ∀ g, row = some g → v = none ∨ v ≠ some g) : v = none ∨ v ≠ row := by
  cases v with
  | none => exact .inl rfl
  | some x =>
    cases row with
    | none => exact .inr (by simp)
    | some g => exact h g rfl
theorem OwnD.turnF (h : OwnD w B vS vC vK vF f D) (hg : w.grownBy w1 vF.ownBlock) {u : Value} {l : List Int} (hu : w1.ownsRow B 3 1 u l.length (l.map (Value.int .i64))) (hub : u.ownBlock = vF.ownBlock ∨ ∀ x, u.ownBlock = some x → w.heap.size ≤ x) :
    OwnD w1 B vS vC vK u f { D with F := l } := by
  refine ⟨h.s.kept hg (apart_none fun g hg2 => own_apart h.s h.ff (by decide) hg2), h.c.kept hg (apart_none fun g hg2 => own_apart h.c h.ff (by decide) hg2), h.k.kept hg (apart_none fun g hg2 => .inr fun e => h.kf g e hg2), hu, fun i hi => (h.cs i hi).kept hg (apart_none fun g hg2 => own_apart (h.cs i hi) h.ff (by decide) hg2), fun x hx e => ?_, h.cc⟩
  rcases hub with h2 | h2
  · exact h.kf x hx (h2 ▸ e)
  · have a1 := h2 x e
    have a2 := (h.k.lt x hx).2
    omega
/-- The fenced keys are another row. -/
theorem ActAt.swapF (h : ActAt w B b vS vC vK vF f D node) (hg : w.grownBy w1 vF.ownBlock) {u : Value} {l : List Int} (hu : w1.ownsRow B 3 1 u l.length (l.map (Value.int .i64))) (hub : u.ownBlock = vF.ownBlock ∨ ∀ x, u.ownBlock = some x → w.heap.size ≤ x) :
    ActAt (w1.setCell ⟨b, 4, none⟩ u) B b vS vC vK u f { D with F := l } node := by
  have hb : vF.ownBlock ≠ some b := fun e => own_blk h.d.ff h.a (by decide) e rfl
  have ha : Blk w1 b #[vS, vC, vK, .int .i64 D.n, vF, .int .i64 node] 73 := (hg.block b h.a.lt (fun e => hb e.symm)).trans h.a
  have hd := h.d.turnF hg hu hub
  have key : ∀ {e : TypeId} {size : Nat} {v : Value} {n : Nat} {xs : List Value}, w1.ownsRow B e size v n xs → e ≠ 73 → (w1.setCell ⟨b, 4, none⟩ u).ownsRow B e size v n xs := by
    intro e size v n xs hv hne
    refine ownsRow_setCell_other hv (fun hb => ?_) u
    exact own_blk hv ha hne hb rfl
  exact ⟨⟨key hd.s (by decide), key hd.c (by decide), key hd.k (by decide), key hd.ff (by decide), fun i hi => key (hd.cs i hi) (by decide), hd.kf, hd.cc⟩, ha.set 4 u, h.hb⟩
end

set_option maxRecDepth 100000 in
set_option maxHeartbeats 2000000 in
theorem fence_any (B b : Nat) (D : Dev) (node key : Int) (w : World) (h : ActorAt w B b D node) (hr : D.F.Pairwise (· < ·)) (hS : D.F.length ≤ 1099511627776) (hB : B ≤ w.heap.size) :
    Calls Try.prog 57 #[.pointer (some ⟨b, 0, none⟩), .int .i64 key] w fun e w' => e = .returned (.tuple #[]) ∧ ActorAt w' B b (fencesD D key) node ∧ Below B w w' := by
  obtain ⟨vS, vC, vK, vF, f, h⟩ := h
  have hbx := h.box
  have hc := search_any B D.F.length vF D.F key w h.d.ff hS hr
  have c4 := hbx.c4
  cases hin : D.F.contains key with
  | true =>
    rw [hin] at hc
    have hmem : key ∈ D.F := by simpa using hin
    have HF : Hid (fencesD D key = D) := by
      show fencesD D key = D
      unfold fencesD
      rw [fence_there hr hmem]
    clear hr
    have H := Lib.hid h
    clear h hbx hmem hin
    go_enter Try.func57, Try.ntmps57
    go_wp2_with fail
    refine hc.mono ?_
    rintro e w1 ⟨rfl, q, rfl⟩
    go_wp2_with fail
    go_end0
    refine ⟨rfl, ?_, drewN_below _ _ _⟩
    rw [HF.out]
    exact ⟨_, _, _, _, _, H.out.up (drewN_below _ _ _)⟩
  | false =>
    rw [hin] at hc
    have hmem : key ∉ D.F := by simpa using hin
    obtain ⟨i, hi⟩ : ∃ i, D.F.countP (· < key) = i := ⟨_, rfl⟩
    have hil : i ≤ D.F.length := by rw [← hi]; exact List.countP_le_length
    have HF : Hid (fencesD D key = { D with F := D.F.take i ++ key :: D.F.drop i }) := by
      show fencesD D key = _
      unfold fencesD
      rw [fence_new hr hmem, hi]
    rw [hi] at hc
    have hlen : (D.F.take i ++ key :: D.F.drop i).length = D.F.length + 1 := by simp; omega
    have hHB := h.hb
    have HSTEP : Hid (∀ q : Nat, Calls Try.prog 72 #[vF, .int .i64 (i : Int), .slice (some ⟨w.heap.size, 0, none⟩) 1 1] ((w.alloc (.cells #[.int .i64 key] 3)).drewN q) fun e w' => ∃ A n c, e = .returned (.slice A n c) ∧ w'.cell? ⟨b, 4, none⟩ = some vF ∧ w'.frozen? ⟨b, 4, none⟩ = false ∧ Hid (ActorAt (w'.setCell ⟨b, 4, none⟩ (.slice A n c)) B b (fencesD D key) node ∧ Below B w (w'.setCell ⟨b, 4, none⟩ (.slice A n c)))) := by
      intro q
      have hup : Below w.heap.size w ((w.alloc (.cells #[.int .i64 key] 3)).drewN q) := (below_alloc w _).trans (drewN_below _ _ _)
      have hA := h.up hup
      have hx : Blk ((w.alloc (.cells #[.int .i64 key] 3)).drewN q) w.heap.size #[.int .i64 key] 3 := Blk.new w _ _
      have hvb : vF.ownBlock ≠ some w.heap.size := fun e => by have := (h.d.ff.lt _ e).2; omega
      refine (insert_any B D.F.length i w.heap.size vF D.F key _ hA.d.ff hil hS (Nat.le_trans hB hup.size) hx hvb).mono ?_
      rintro e w' ⟨u, rfl, hown, hg, hub⟩
      have hA2 := hA.swapF (l := D.F.take i ++ key :: D.F.drop i) hg (by rw [hlen]; exact hown) hub
      have hb : vF.ownBlock ≠ some b := fun e => own_blk h.d.ff h.a (by decide) e rfl
      have ha := (hg.block b hA.a.lt (fun e => hb e.symm)).trans hA.a
      obtain ⟨A, c, rfl, _, _⟩ := own_shape2 hown
      refine ⟨A, _, c, rfl, Blk.cell ha 4 _ rfl, Blk.free ha 4, ?_, ?_⟩
      · rw [HF.out]
        exact ⟨_, _, _, _, _, hA2⟩
      · exact ((hup.mono hB).trans (below_grown_by hg (Nat.le_trans hB hup.size) (fun k hk => (h.d.ff.lt k hk).1))).setCell (by simpa using hHB) _
    clear hr hmem hin hi hil hlen h hbx HF hHB
    go_enter Try.func57, Try.ntmps57
    go_wp2_with fail
    refine hc.mono ?_
    rintro e w1 ⟨rfl, q, rfl⟩
    have hi0 : (0 : Int) ≤ (i : Int) := by omega
    go_wp2_with fail
    refine (HSTEP.out q).mono ?_
    rintro e w2 ⟨A, n, c, rfl, k4, kf, HK⟩
    clear hc HSTEP c4
    go_wp2_with fail
    go_end0
    exact ⟨rfl, HK.out.1, HK.out.2⟩

end Go.Proofs.Ytleemgjbihdbgaa

/-
  The program's actor: what it does: by contract.
-/
namespace Go.Proofs.Ytleemgjbihdbgaa
open Go.RowKit
set_option linter.unusedVariables false
set_option linter.unusedSimpArgs false

theorem act_kinds {D : Dev} {i : Nat} {a : ActM} (h : actE D i a = 0) : a.k = 1 ∨ a.k = 2 ∨ a.k = 3 ∨ a.k = 4 ∨ a.k = 5 ∨ a.k = 6 := by
  unfold actE at h
  split at h
  · cases h
  · omega
theorem act_sec {D : Dev} {i : Nat} {a : ActM} (h : actE D i a = 0) (hk : a.k = 1 ∨ a.k = 2 ∨ a.k = 3) : ∃ s : Nat, a.s = (s : Int) ∧ s < D.S.length := by
  unfold actE at h
  split at h
  · cases h
  · split at h
    · cases h
    · split at h
      · cases h
      · split at h
        · cases h
        · rename_i h4
          have : 0 ≤ a.s ∧ a.s < (D.S.length : Int) := Decidable.byContradiction fun h5 => h4 ⟨hk, h5⟩
          obtain ⟨s, hs⟩ := Int.eq_ofNat_of_zero_le this.1
          exact ⟨s, hs, by omega⟩
theorem act_next {D : Dev} {i : Nat} {a : ActM} (h : actE D i a = 0) (hk : a.k = 6) : D.n < 68719476736 := by
  unfold actE at h
  split at h
  · cases h
  · split at h
    · cases h
    · rename_i h2
      have : ¬ 68719476736 ≤ D.n := fun h3 => h2 (.inr (.inr ⟨hk, h3⟩))
      omega

set_option maxRecDepth 100000 in
set_option maxHeartbeats 4000000 in
theorem do_any (B b : Nat) (D : Dev) (i : Nat) (a : ActM) (w : World) (h : ActorAt w B b D (i : Int)) (hm : MayD D) (hi : i < D.K.length) (hS : Small D 1099511627776) (hE : actE D i a = 0) (hB : B ≤ w.heap.size) :
    Calls Try.prog 36 #[.pointer (some ⟨b, 0, none⟩), actV a] w fun e w' => e = .returned (.string (actS D i a)) ∧ ActorAt w' B b (actD D i a) (i : Int) ∧ Below B w w' := by
  have hC : i < D.C.length := by rw [hm.ck]; exact hi
  obtain ⟨k, s, t, key⟩ := a
  obtain ⟨W0, hW⟩ : ∃ W0, W0 = w.alloc (.cells #[.int .i8 k, .int .i64 s, .string t, .int .i64 key] 38) := ⟨_, rfl⟩
  have hb0 : Below w.heap.size w W0 := hW ▸ below_alloc w _
  have x0 : Box4 W0 w.heap.size k s t key := hW ▸ Box4.new w _ _ _ _ _
  have H0 := Lib.hid (h.up hb0)
  have hB0 : B ≤ W0.heap.size := Nat.le_trans hB hb0.size
  have HB0 := Lib.hid (hb0.mono hB)
  clear h hb0
  have hkk := act_kinds hE
  have hsec := act_sec hE
  have hnext := act_next hE
  simp only at hkk hsec hnext
  show Calls _ _ #[_, .agg #[.int .i8 k, .int .i64 s, .string t, .int .i64 key]] _ _
  have y0 := x0.c0
  have y1 := x0.c1
  have y2 := x0.c2
  have y3 := x0.c3
  clear x0
  rcases hkk with rfl | rfl | rfl | rfl | rfl | rfl
  · obtain ⟨sn, rfl, hs⟩ := hsec (.inl rfl)
    have HD : Hid (actD D i ⟨1, (sn : Int), t, key⟩ = D) := by show actD _ _ _ = _; simp [actD, hE]
    have HV : Hid (actS D i ⟨1, (sn : Int), t, key⟩ = readD D i (sn : Int)) := by show actS _ _ _ = _; simp [actS, hE]
    have hc := read_any B b D i sn W0 H0.out hC hs
    clear hE hsec hnext
    go_enter Try.func36, Try.ntmps36
    go_wp2_with fail
    rw [← hW]
    clear hW
    refine hc.mono ?_
    rintro e w1 ⟨rfl, hb1⟩
    clear hc
    go_wp2_with fail
    go_ret
    refine ⟨by rw [HV.out]; rfl, ?_, HB0.out.trans (hb1.mono hB0)⟩
    rw [HD.out]
    exact H0.out.up hb1
  · obtain ⟨sn, rfl, hs⟩ := hsec (.inr (.inl rfl))
    have HD : Hid (actD D i ⟨2, (sn : Int), t, key⟩ = forceD D i (sn : Int) t) := by show actD _ _ _ = _; simp [actD, hE]
    have HV : Hid (actS D i ⟨2, (sn : Int), t, key⟩ = ⟨#[]⟩) := by show actS _ _ _ = _; simp [actS, hE]
    have hc := force_any B b D i sn t W0 H0.out hC hs hS hB0
    clear hE hsec hnext H0
    go_enter Try.func36, Try.ntmps36
    go_wp2_with fail
    rw [← hW]
    clear hW
    refine hc.mono ?_
    rintro e w1 ⟨rfl, hA1, hb1⟩
    have HA1 := Lib.hid hA1
    clear hc hA1
    go_wp2_with fail
    go_ret
    refine ⟨by rw [HV.out]; rfl, ?_, HB0.out.trans hb1⟩
    rw [HD.out]
    exact HA1.out
  · obtain ⟨sn, rfl, hs⟩ := hsec (.inr (.inr rfl))
    have HD : Hid (actD D i ⟨3, (sn : Int), t, key⟩ = putD D i (sn : Int) t) := by show actD _ _ _ = _; simp [actD, hE]
    have HV : Hid (actS D i ⟨3, (sn : Int), t, key⟩ = ⟨#[]⟩) := by show actS _ _ _ = _; simp [actS, hE]
    have hc := put_any' B b D i sn t W0 H0.out hC hS hB0
    clear hE hsec hnext H0
    go_enter Try.func36, Try.ntmps36
    go_wp2_with fail
    rw [← hW]
    clear hW
    refine hc.mono ?_
    rintro e w1 ⟨rfl, hA1, hb1⟩
    have HA1 := Lib.hid hA1
    clear hc hA1
    go_wp2_with fail
    go_ret
    refine ⟨by rw [HV.out]; rfl, ?_, HB0.out.trans hb1⟩
    rw [HD.out]
    exact HA1.out
  · have HD : Hid (actD D i ⟨4, s, t, key⟩ = flushD D i) := by show actD _ _ _ = _; simp [actD, hE]
    have HV : Hid (actS D i ⟨4, s, t, key⟩ = ⟨#[]⟩) := by show actS _ _ _ = _; simp [actS, hE]
    have hc := flush_any B b D i W0 H0.out hC hm hS hB0
    clear hE hsec hnext H0
    go_enter Try.func36, Try.ntmps36
    go_wp2_with fail
    rw [← hW]
    clear hW
    refine hc.mono ?_
    rintro e w1 ⟨rfl, hA1, hb1⟩
    have HA1 := Lib.hid hA1
    clear hc hA1
    go_wp2_with fail
    go_ret
    refine ⟨by rw [HV.out]; rfl, ?_, HB0.out.trans hb1⟩
    rw [HD.out]
    exact HA1.out
  · have HD : Hid (actD D i ⟨5, s, t, key⟩ = fencesD D key) := by show actD _ _ _ = _; simp [actD, hE]
    have HV : Hid (actS D i ⟨5, s, t, key⟩ = ⟨#[]⟩) := by show actS _ _ _ = _; simp [actS, hE]
    have hc := fence_any B b D (i : Int) key W0 H0.out hm.fr hS.f hB0
    clear hE hsec hnext H0
    go_enter Try.func36, Try.ntmps36
    go_wp2_with fail
    rw [← hW]
    clear hW
    refine hc.mono ?_
    rintro e w1 ⟨rfl, hA1, hb1⟩
    have HA1 := Lib.hid hA1
    clear hc hA1
    go_wp2_with fail
    go_ret
    refine ⟨by rw [HV.out]; rfl, ?_, HB0.out.trans hb1⟩
    rw [HD.out]
    exact HA1.out
  · have HD : Hid (actD D i ⟨6, s, t, key⟩ = registerD D i) := by show actD _ _ _ = _; simp [actD, hE]
    have HV : Hid (actS D i ⟨6, s, t, key⟩ = key6 (16 * D.n + (i : Int))) := by show actS _ _ _ = _; simp [actS, hE]
    have hc := register_any B b D i W0 H0.out hC hi hm.k16 hm.n1 (hnext rfl) hB0
    clear hE hsec hnext H0
    go_enter Try.func36, Try.ntmps36
    go_wp2_with fail
    rw [← hW]
    clear hW
    refine hc.mono ?_
    rintro e w1 ⟨rfl, hA1, hb1⟩
    have HA1 := Lib.hid hA1
    clear hc hA1
    go_wp2_with fail
    go_ret
    refine ⟨by rw [HV.out]; rfl, ?_, HB0.out.trans hb1⟩
    rw [HD.out]
    exact HA1.out

end Go.Proofs.Ytleemgjbihdbgaa

/-
  The program's device: an act, a crash, a start of a node, at a device that may be: by contract.
-/
namespace Go.Proofs.Ytleemgjbihdbgaa
open Go.RowKit
set_option linter.unusedVariables false
set_option linter.unusedSimpArgs false

set_option maxRecDepth 100000 in
set_option maxHeartbeats 2000000 in
theorem isThere_neg (B b : Nat) (D : Dev) (node : Int) (w : World) (h : ActorAt w B b D node) (hm : MayD D) (hS : Small D 1099511627776) (h0 : node < 0) :
    Calls Try.prog 38 #[.pointer (some ⟨b, 0, none⟩)] w fun e w' => e = .returned (.bool false) ∧ Below w.heap.size w w' := by
  obtain ⟨vS, vC, vK, vF, f, h⟩ := h
  have hbx := h.box
  have hlt := h.a.lt
  have hdev := h.d.dev
  have hs : sMayB D.S = true := (sMay_iff _).2 ⟨hm.s1, hm.ss⟩
  have hc := (may_any _ D true w.drew (hdev.up ((Below.refl w.heap.size w).drew)) hS.s hs (fun _ => hm)).mono (R' := fun e w' => e = .returned (.bool true) ∧ Box6 w' b vS vC vK D.n vF node ∧ Below w.heap.size w w') (by
    rintro e w' ⟨rfl, hb⟩
    have hb' : Below w.heap.size w w' := ((Below.refl w.heap.size w).drew).trans hb
    exact ⟨rfl, hbx.below hb' hlt, hb'⟩)
  clear hm hS hs hdev h
  have c0 := hbx.c0
  have c1 := hbx.c1
  have c2 := hbx.c2
  have c3 := hbx.c3
  have c4 := hbx.c4
  have c5 := hbx.c5
  have hd : decide (0 ≤ node) = false := decide_eq_false (by omega)
  clear hbx
  go_enter Try.func38, Try.ntmps38
  go_wp2_with fail
  refine wp_region_held_drew (S := (fun w' => w'.cell? ⟨b, 0, none⟩ = some vS ∧ w'.cell? ⟨b, 1, none⟩ = some vC ∧ w'.cell? ⟨b, 2, none⟩ = some vK ∧ w'.cell? ⟨b, 3, none⟩ = some (.int .i64 D.n) ∧ w'.cell? ⟨b, 4, none⟩ = some vF ∧ w'.cell? ⟨b, 5, none⟩ = some (.int .i64 node))) (by kernel_rfl) ?_ (fun hHeld => ?_)
  focus (exact ⟨c0, c1, c2, c3, c4, c5⟩)
  refine wpAnyH_take (i := 0) (oi := ⟨some 3, _, _, _, _, _⟩) (v := ?_) rfl (by kernel_rfl) (by kernel_rfl) (by kernel_rfl) (fun _ _ _ h => h) (Or.inl ⟨by rfl, ?_⟩) (by assumption) ?_
  rotate_left
  focus (intro wq hSq; (try dsimp only at hSq); go_simp; try with_reducible rfl)
  try simp only [Act.put, List.setIfInBounds_toArray, List.set_cons_zero, List.set_cons_succ]
  refine wpAnyH_take (i := 1) (oi := ⟨some 4, _, _, _, _, _⟩) (v := ?_) rfl (by kernel_rfl) (by kernel_rfl) (by kernel_rfl) (fun _ _ _ h => h) (Or.inl ⟨by rfl, ?_⟩) (by assumption) ?_
  rotate_left
  focus (intro wq hSq; (try dsimp only at hSq); go_simp; try with_reducible rfl)
  try simp only [Act.put, List.setIfInBounds_toArray, List.set_cons_zero, List.set_cons_succ]
  refine wpAnyH_take (i := 2) (oi := ⟨some 5, _, _, _, _, _⟩) (v := ?_) rfl (by kernel_rfl) (by kernel_rfl) (by kernel_rfl) (fun _ _ _ h => h) (Or.inl ⟨by rfl, ?_⟩) (by assumption) ?_
  rotate_left
  focus (intro wq hSq; (try dsimp only at hSq); go_simp; try with_reducible rfl)
  try simp only [Act.put, List.setIfInBounds_toArray, List.set_cons_zero, List.set_cons_succ]
  refine wpAnyH_take (i := 3) (oi := ⟨some 6, _, _, _, _, _⟩) (v := ?_) rfl (by kernel_rfl) (by kernel_rfl) (by kernel_rfl) (fun _ _ _ h => h) (Or.inl ⟨by rfl, ?_⟩) (by assumption) ?_
  rotate_left
  focus (intro wq hSq; (try dsimp only at hSq); go_simp; try with_reducible rfl)
  try simp only [Act.put, List.setIfInBounds_toArray, List.set_cons_zero, List.set_cons_succ]
  refine wpAnyH_ready (rs := [4]) (by kernel_rfl) (by simp) ?_
  refine AllReadyH.cons (o := ⟨some 7, _, _, _, _, _⟩) rfl (fun K hK => ?_) AllReadyH.nil
  go_simp
  refine hc.mono ?_
  rintro e w1 ⟨rfl, ⟨k0, k1, k2, k3, k4, k5⟩, hb1⟩
  go_wp2_with fail
  refine hK.out _ _ ?_ (fun hHeld => ?_)
  focus (exact ⟨k0, k1, k2, k3, k4, k5⟩)
  clear hK K
  try simp only [Act.put, List.setIfInBounds_toArray, List.set_cons_zero, List.set_cons_succ]
  refine wpAnyH_take (i := 5) (oi := ⟨some 8, _, _, _, _, _⟩) (v := ?_) rfl (by kernel_rfl) (by kernel_rfl) (by kernel_rfl) (fun _ _ _ h => h) (Or.inl ⟨by rfl, ?_⟩) (by assumption) ?_
  rotate_left
  focus (intro wq hSq; (try dsimp only at hSq); go_simp; try with_reducible rfl)
  try simp only [Act.put, List.setIfInBounds_toArray, List.set_cons_zero, List.set_cons_succ]
  refine wpAnyH_take (i := 6) (oi := ⟨some 9, _, _, _, _, _⟩) (v := ?_) rfl (by kernel_rfl) (by kernel_rfl) (by kernel_rfl) (fun _ _ _ h => h) (Or.inl ⟨by rfl, ?_⟩) (by assumption) ?_
  rotate_left
  focus (intro wq hSq; (try dsimp only at hSq); go_simp; try with_reducible rfl)
  try simp only [Act.put, List.setIfInBounds_toArray, List.set_cons_zero, List.set_cons_succ]
  refine wpAnyH_take (i := 7) (oi := ⟨some 10, _, _, _, _, _⟩) (v := ?_) rfl (by kernel_rfl) (by kernel_rfl) (by kernel_rfl) (fun _ _ _ h => h) (Or.inl ⟨by rfl, ?_⟩) (by assumption) ?_
  rotate_left
  focus (intro wq hSq; (try dsimp only at hSq); go_simp; try with_reducible rfl)
  try simp only [Act.put, List.setIfInBounds_toArray, List.set_cons_zero, List.set_cons_succ]
  refine wpAnyH_take (i := 8) (oi := ⟨some 11, _, _, _, _, _⟩) (v := ?_) rfl (by kernel_rfl) (by kernel_rfl) (by kernel_rfl) (fun _ _ _ h => h) (Or.inl ⟨by rfl, ?_⟩) (by assumption) ?_
  rotate_left
  focus (intro wq hSq; (try dsimp only at hSq); go_simp; try with_reducible rfl)
  try simp only [Act.put, List.setIfInBounds_toArray, List.set_cons_zero, List.set_cons_succ]
  refine wpAnyH_take (i := 9) (oi := ⟨some 12, _, _, _, _, _⟩) (v := ?_) rfl (by kernel_rfl) (by kernel_rfl) (by kernel_rfl) (fun _ _ _ h => h) (Or.inl ⟨by rfl, ?_⟩) (by assumption) ?_
  rotate_left
  focus (intro wq hSq; (try dsimp only at hSq); go_simp; try with_reducible rfl)
  try simp only [Act.put, List.setIfInBounds_toArray, List.set_cons_zero, List.set_cons_succ]
  refine wpAnyH_take (i := 10) (oi := ⟨some 13, _, _, _, _, _⟩) (v := ?_) rfl (by kernel_rfl) (by kernel_rfl) (by kernel_rfl) (fun _ _ _ h => h) (Or.inl ⟨by rfl, ?_⟩) (by assumption) ?_
  rotate_left
  focus (intro wq hSq; (try dsimp only at hSq); go_simp; try with_reducible rfl)
  try simp only [Act.put, List.setIfInBounds_toArray, List.set_cons_zero, List.set_cons_succ]
  refine wpAnyH_take (i := 11) (oi := ⟨some 14, _, _, _, _, _⟩) (v := ?_) rfl (by kernel_rfl) (by kernel_rfl) (by kernel_rfl) (fun _ _ _ h => h) (Or.inl ⟨by rfl, ?_⟩) (by assumption) ?_
  rotate_left
  focus (intro wq hSq; (try dsimp only at hSq); go_simp; try with_reducible rfl)
  try simp only [Act.put, List.setIfInBounds_toArray, List.set_cons_zero, List.set_cons_succ]
  refine wpAnyH_take (i := 12) (oi := ⟨some 15, _, _, _, _, _⟩) (v := ?_) rfl (by kernel_rfl) (by kernel_rfl) (by kernel_rfl) (fun _ _ _ h => h) (Or.inl ⟨by rfl, ?_⟩) (by assumption) ?_
  rotate_left
  focus (intro wq hSq; (try dsimp only at hSq); go_simp; try with_reducible rfl)
  try simp only [Act.put, List.setIfInBounds_toArray, List.set_cons_zero, List.set_cons_succ]
  refine wpAnyH_take (i := 13) (oi := ⟨some 16, _, _, _, _, _⟩) (v := undef) rfl (by kernel_rfl) (by kernel_rfl) (by kernel_rfl) (fun _ _ _ h => h) (Or.inr ⟨by rfl, rfl⟩) (by assumption) ?_
  try simp only [Act.put, List.setIfInBounds_toArray, List.set_cons_zero, List.set_cons_succ]
  refine wpAnyH_take (i := 14) (oi := ⟨some 17, _, _, _, _, _⟩) (v := undef) rfl (by kernel_rfl) (by kernel_rfl) (by kernel_rfl) (fun _ _ _ h => h) (Or.inr ⟨by rfl, rfl⟩) (by assumption) ?_
  try simp only [Act.put, List.setIfInBounds_toArray, List.set_cons_zero, List.set_cons_succ]
  refine wpAnyH_take (i := 15) (oi := ⟨some 18, _, _, _, _, _⟩) (v := undef) rfl (by kernel_rfl) (by kernel_rfl) (by kernel_rfl) (fun _ _ _ h => h) (Or.inr ⟨by rfl, rfl⟩) (by assumption) ?_
  try simp only [Act.put, List.setIfInBounds_toArray, List.set_cons_zero, List.set_cons_succ]
  refine wpAnyH_take (i := 16) (oi := ⟨some 19, _, _, _, _, _⟩) (v := undef) rfl (by kernel_rfl) (by kernel_rfl) (by kernel_rfl) (fun _ _ _ h => h) (Or.inr ⟨by rfl, rfl⟩) (by assumption) ?_
  try simp only [Act.put, List.setIfInBounds_toArray, List.set_cons_zero, List.set_cons_succ]
  refine wpAnyH_take (i := 17) (oi := ⟨some 20, _, _, _, _, _⟩) (v := undef) rfl (by kernel_rfl) (by kernel_rfl) (by kernel_rfl) (fun _ _ _ h => h) (Or.inr ⟨by rfl, rfl⟩) (by assumption) ?_
  try simp only [Act.put, List.setIfInBounds_toArray, List.set_cons_zero, List.set_cons_succ]
  refine wpAnyH_take (i := 18) (oi := ⟨some 21, _, _, _, _, _⟩) (v := undef) rfl (by kernel_rfl) (by kernel_rfl) (by kernel_rfl) (fun _ _ _ h => h) (Or.inr ⟨by rfl, rfl⟩) (by assumption) ?_
  try simp only [Act.put, List.setIfInBounds_toArray, List.set_cons_zero, List.set_cons_succ]
  refine wpAnyH_take (i := 19) (oi := ⟨some 22, _, _, _, _, _⟩) (v := undef) rfl (by kernel_rfl) (by kernel_rfl) (by kernel_rfl) (fun _ _ _ h => h) (Or.inr ⟨by rfl, rfl⟩) (by assumption) ?_
  try simp only [Act.put, List.setIfInBounds_toArray, List.set_cons_zero, List.set_cons_succ]
  refine wpAnyH_take (i := 20) (oi := ⟨some 23, _, _, _, _, _⟩) (v := undef) rfl (by kernel_rfl) (by kernel_rfl) (by kernel_rfl) (fun _ _ _ h => h) (Or.inr ⟨by rfl, rfl⟩) (by assumption) ?_
  try simp only [Act.put, List.setIfInBounds_toArray, List.set_cons_zero, List.set_cons_succ]
  refine wpAnyH_take (i := 21) (oi := ⟨some 24, _, _, _, _, _⟩) (v := undef) rfl (by kernel_rfl) (by kernel_rfl) (by kernel_rfl) (fun _ _ _ h => h) (Or.inr ⟨by rfl, rfl⟩) (by assumption) ?_
  try simp only [Act.put, List.setIfInBounds_toArray, List.set_cons_zero, List.set_cons_succ]
  refine wpAnyH_take (i := 22) (oi := ⟨some 25, _, _, _, _, _⟩) (v := undef) rfl (by kernel_rfl) (by kernel_rfl) (by kernel_rfl) (fun _ _ _ h => h) (Or.inr ⟨by rfl, rfl⟩) (by assumption) ?_
  try simp only [Act.put, List.setIfInBounds_toArray, List.set_cons_zero, List.set_cons_succ]
  refine wpAnyH_take (i := 23) (oi := ⟨some 26, _, _, _, _, _⟩) (v := undef) rfl (by kernel_rfl) (by kernel_rfl) (by kernel_rfl) (fun _ _ _ h => h) (Or.inr ⟨by rfl, rfl⟩) (by assumption) ?_
  try simp only [Act.put, List.setIfInBounds_toArray, List.set_cons_zero, List.set_cons_succ]
  refine wpAnyH_take (i := 24) (oi := ⟨some 27, _, _, _, _, _⟩) (v := undef) rfl (by kernel_rfl) (by kernel_rfl) (by kernel_rfl) (fun _ _ _ h => h) (Or.inr ⟨by rfl, rfl⟩) (by assumption) ?_
  try simp only [Act.put, List.setIfInBounds_toArray, List.set_cons_zero, List.set_cons_succ]
  refine wpAnyH_take (i := 25) (oi := ⟨some 28, _, _, _, _, _⟩) (v := ?_) rfl (by kernel_rfl) (by kernel_rfl) (by kernel_rfl) (fun _ _ _ h => h) (Or.inl ⟨by rfl, ?_⟩) (by assumption) ?_
  rotate_left
  focus (intro wq hSq; (try dsimp only at hSq); go_simp; try with_reducible rfl)
  try simp only [Act.put, List.setIfInBounds_toArray, List.set_cons_zero, List.set_cons_succ]
  refine wpAnyH_take (i := 26) (oi := ⟨some 2, _, _, _, _, _⟩) (v := ?_) rfl (by kernel_rfl) (by kernel_rfl) (by kernel_rfl) (fun _ _ _ h => h) (Or.inl ⟨by rfl, ?_⟩) (by assumption) ?_
  rotate_left
  focus (intro wq hSq; (try dsimp only at hSq); go_simp; try with_reducible rfl)
  try simp only [Act.put, List.setIfInBounds_toArray, List.set_cons_zero, List.set_cons_succ]
  refine wpAnyH_done (by kernel_rfl) ?_ _
  go_wp2_with fail
  go_ret
  exact ⟨rfl, hb1⟩
/-- Whatever the node's number. -/
theorem isThere_all (B b : Nat) (D : Dev) (node : Int) (w : World) (h : ActorAt w B b D node) (hm : MayD D) (hS : Small D 1099511627776) :
    Calls Try.prog 38 #[.pointer (some ⟨b, 0, none⟩)] w fun e w' => e = .returned (.bool (decide (NodeOk D node))) ∧ Below w.heap.size w w' := by
  by_cases h0 : 0 ≤ node
  · exact isThere_any B b D node w h hm hS h0
  · have e : decide (NodeOk D node) = false := decide_eq_false fun h1 => h0 h1.1
    rw [e]
    exact isThere_neg B b D node w h hm hS (by omega)

set_option maxRecDepth 100000 in
set_option maxHeartbeats 2000000 in
theorem refuses_all (B b : Nat) (D : Dev) (node : Int) (a : ActM) (w : World) (h : ActorAt w B b D node) (hm : MayD D) (hS : Small D 1099511627776) (ha : ActBd a) :
    Calls Try.prog 35 #[.pointer (some ⟨b, 0, none⟩), actV a] w fun e w' => e = .returned (.int .i64 (refE D node a)) ∧ Below w.heap.size w w' := by
  by_cases h0 : 0 ≤ node
  · exact refuses_any B b D node a w h hm hS ha h0
  · have HE : Hid (refE D node a = 2) := by
      show refE D node a = 2
      unfold refE
      rw [if_neg (fun h1 => h0 h1.1)]
    obtain ⟨k, s, t, key⟩ := a
    obtain ⟨W0, hW⟩ : ∃ W0, W0 = w.alloc (.cells #[.int .i8 k, .int .i64 s, .string t, .int .i64 key] 38) := ⟨_, rfl⟩
    have hb0 : Below w.heap.size w W0 := hW ▸ below_alloc w _
    have hc1 := isThere_neg B b D node W0 (h.up hb0) hm hS (by omega)
    clear h
    show Calls _ _ #[_, .agg #[.int .i8 k, .int .i64 s, .string t, .int .i64 key]] _ _
    go_enter Try.func35, Try.ntmps35
    go_wp2_with fail
    rw [← hW]
    clear hW
    refine hc1.mono ?_
    rintro e w1 ⟨rfl, hb1⟩
    go_wp2_with fail
    go_ret
    exact ⟨by rw [HE.out]; rfl, below_then hb0 hb1⟩

/-- What an actor's device is, read as one value. -/
theorem ActAt.dev {w : World} {B b : Nat} {vS vC vK vF : Value} {f : Nat → Value} {D : Dev} {node : Int} (h : ActAt w B b vS vC vK vF f D node) : DevAt w w.heap.size (.agg #[vS, vC, vK, .int .i64 D.n, vF]) D := h.d.dev

/-- What comes of an act: the device, the bytes, the error. -/
def doD (D : Dev) (node : Int) (a : ActM) : Dev := if NodeOk D node then actD D node.toNat a else D
def doS (D : Dev) (node : Int) (a : ActM) : ByteArray := if NodeOk D node then actS D node.toNat a else ⟨#[]⟩
theorem do_err {D : Dev} {node : Int} {a : ActM} (h : refE D node a ≠ 0) : doD D node a = D ∧ doS D node a = ⟨#[]⟩ := by
  unfold refE at h
  unfold doD doS
  split
  · rename_i hn
    rw [if_pos hn] at h
    exact ⟨by unfold actD; rw [if_pos h], by unfold actS; rw [if_pos h]⟩
  · exact ⟨rfl, rfl⟩
theorem do_okay {D : Dev} {node : Int} {a : ActM} (h : refE D node a = 0) : ∃ i : Nat, node = (i : Int) ∧ i < D.K.length ∧ actE D i a = 0 ∧ doD D node a = actD D i a ∧ doS D node a = actS D i a := by
  unfold refE at h
  split at h
  · rename_i hn
    obtain ⟨i, rfl⟩ := Int.eq_ofNat_of_zero_le hn.1
    refine ⟨i, rfl, by have := hn.2; omega, by simpa using h, ?_, ?_⟩
    · unfold doD; rw [if_pos hn]; rfl
    · unfold doS; rw [if_pos hn]; rfl
  · cases h

/-- Five cells of an actor's block, as a device. -/
theorem act_range {w : World} {B b : Nat} {vS vC vK vF : Value} {f : Nat → Value} {D : Dev} {node : Int} (h : ActAt w B b vS vC vK vF f D node) : w.rangeAt b 0 [vS, vC, vK, .int .i64 D.n, vF] := fun j v hv => by
  rw [Nat.zero_add]
  refine h.a.cell j v ?_
  match j, hv with
  | 0, hv => exact hv
  | 1, hv => exact hv
  | 2, hv => exact hv
  | 3, hv => exact hv
  | 4, hv => exact hv
  | j + 5, hv => simp at hv

/-- Three results, two results: the first in a block of the call's own. -/
theorem results_c3 {P : Program} {fn : Func} {t u x : Tmp} {ty : TypeId} (h : fn.results = #[.cell t ty, .tmp u, .tmp x]) {tmps : Array Value} {w : World} {b : Nat} {cs : List Value} {d : TypeDesc} {v v2 : Value}
    (hp : tmps.getD t undef = .pointer (some ⟨b, 0, none⟩)) (hv : tmps.getD u undef = v) (hv2 : tmps.getD x undef = v2) (hr : w.rangeAt b 0 cs) (hu : P.underlying ty = some d) (hd : d.isRow = true) (hi : (P.info? ty).map (·.size) = some cs.length) :
    (results fn tmps).run P w = .ok (.tuple #[.agg cs.toArray, v, v2]) w := by
  have hp' : tmps[t]?.getD undef = .pointer (some ⟨b, 0, none⟩) := by simpa using hp
  have hv' : tmps[u]?.getD undef = v := by simpa using hv
  have hv2' : tmps[x]?.getD undef = v2 := by simpa using hv2
  simp [results, h, hp', hv', hv2', asAddr, run_loadVar_mid w b 0 ty cs d hr hu hd hi]
theorem results_c2 {P : Program} {fn : Func} {t u : Tmp} {ty : TypeId} (h : fn.results = #[.cell t ty, .tmp u]) {tmps : Array Value} {w : World} {b : Nat} {cs : List Value} {d : TypeDesc} {v : Value}
    (hp : tmps.getD t undef = .pointer (some ⟨b, 0, none⟩)) (hv : tmps.getD u undef = v) (hr : w.rangeAt b 0 cs) (hu : P.underlying ty = some d) (hd : d.isRow = true) (hi : (P.info? ty).map (·.size) = some cs.length) :
    (results fn tmps).run P w = .ok (.tuple #[.agg cs.toArray, v]) w := by
  have hp' : tmps[t]?.getD undef = .pointer (some ⟨b, 0, none⟩) := by simpa using hp
  have hv' : tmps[u]?.getD undef = v := by simpa using hv
  simp [results, h, hp', hv', asAddr, run_loadVar_mid w b 0 ty cs d hr hu hd hi]

/-- Five cells written into a block. -/
def into5 (w : World) (r : Nat) (vS vC vK : Value) (n : Int) (vF : Value) : World := ((((w.setCell ⟨r, 0, none⟩ vS).setCell ⟨r, 1, none⟩ vC).setCell ⟨r, 2, none⟩ vK).setCell ⟨r, 3, none⟩ (.int .i64 n)).setCell ⟨r, 4, none⟩ vF
theorem into5_range {w : World} {r : Nat} {cs : Array Value} {T : TypeId} (h : Blk w r cs T) (hs : cs.size = 5) (vS vC vK : Value) (n : Int) (vF : Value) : (into5 w r vS vC vK n vF).rangeAt r 0 [vS, vC, vK, .int .i64 n, vF] := by
  have hb := ((((h.set 0 vS).set 1 vC).set 2 vK).set 3 (.int .i64 n)).set 4 vF
  intro j v hv
  rw [Nat.zero_add]
  refine hb.cell j v ?_
  match j, hv with
  | 0, hv => simpa [hs] using hv
  | 1, hv => simpa [hs] using hv
  | 2, hv => simpa [hs] using hv
  | 3, hv => simpa [hs] using hv
  | 4, hv => simpa [hs] using hv
  | j + 5, hv => simp at hv
theorem into5_own {w : World} {r B : Nat} {uS uC uK uF : Value} {f : Nat → Value} {D : Dev} (h : OwnD w B uS uC uK uF f D) (hr : r < B) (vS vC vK : Value) (n : Int) (vF : Value) : OwnD (into5 w r vS vC vK n vF) B uS uC uK uF f D :=
  ((((h.low (a := ⟨r, 0, none⟩) hr vS).low (a := ⟨r, 1, none⟩) hr vC).low (a := ⟨r, 2, none⟩) hr vK).low (a := ⟨r, 3, none⟩) hr (.int .i64 n)).low (a := ⟨r, 4, none⟩) hr vF
theorem into5_below {w W : World} {r B : Nat} (h : Below B w W) (hr : B ≤ r) (vS vC vK : Value) (n : Int) (vF : Value) : Below B w (into5 W r vS vC vK n vF) :=
  ((((h.setCell (p := ⟨r, 0, none⟩) hr vS).setCell (p := ⟨r, 1, none⟩) hr vC).setCell (p := ⟨r, 2, none⟩) hr vK).setCell (p := ⟨r, 3, none⟩) hr (.int .i64 n)).setCell (p := ⟨r, 4, none⟩) hr vF
/-- An actor's device, written into the call's result. -/
theorem into5_act {w W : World} {r B B0 b : Nat} {vS vC vK vF : Value} {f : Nat → Value} {D : Dev} {node : Int} {cs : Array Value} {T : TypeId} (h : ActAt W B b vS vC vK vF f D node) (hr : Blk W r cs T) (hs : cs.size = 5) (hrB : r < B) (hb : Below B0 w W) (hB0 : B0 ≤ r) :
    (into5 W r vS vC vK D.n vF).rangeAt r 0 [vS, vC, vK, .int .i64 D.n, vF] ∧ OwnD (into5 W r vS vC vK D.n vF) B0 vS vC vK vF f D ∧ Below B0 w (into5 W r vS vC vK D.n vF) :=
  ⟨into5_range hr hs _ _ _ _ _, (into5_own h.d hrB _ _ _ _ _).less (by omega), into5_below hb hB0 _ _ _ _ _⟩

/-- A device, bytes and an error; a device and an error. -/
def ActPost (D' : Dev) (s : ByteArray) (E : Int) (w : World) (e : Ending) (w' : World) : Prop := ∃ vS vC vK vF f, e = .returned (.tuple #[.agg #[vS, vC, vK, .int .i64 D'.n, vF], .string s, .int .i64 E]) ∧ OwnD w' w.heap.size vS vC vK vF f D' ∧ Below w.heap.size w w'
theorem actPost_of {D' : Dev} {s : ByteArray} {E : Int} {w w' : World} {vS vC vK vF : Value} {f : Nat → Value} {e : Ending} (h1 : OwnD w' w.heap.size vS vC vK vF f D') (h2 : Below w.heap.size w w') (he : e = .returned (.tuple #[.agg #[vS, vC, vK, .int .i64 D'.n, vF], .string s, .int .i64 E])) : ActPost D' s E w e w' := ⟨vS, vC, vK, vF, f, he, h1, h2⟩
def DevPost (D' : Dev) (E : Int) (w : World) (e : Ending) (w' : World) : Prop := ∃ vS vC vK vF f, e = .returned (.tuple #[.agg #[vS, vC, vK, .int .i64 D'.n, vF], .int .i64 E]) ∧ OwnD w' w.heap.size vS vC vK vF f D' ∧ Below w.heap.size w w'
theorem devPost_of {D' : Dev} {E : Int} {w w' : World} {vS vC vK vF : Value} {f : Nat → Value} {e : Ending} (h1 : OwnD w' w.heap.size vS vC vK vF f D') (h2 : Below w.heap.size w w') (he : e = .returned (.tuple #[.agg #[vS, vC, vK, .int .i64 D'.n, vF], .int .i64 E])) : DevPost D' E w e w' := ⟨vS, vC, vK, vF, f, he, h1, h2⟩

set_option maxRecDepth 100000 in
set_option maxHeartbeats 4000000 in
theorem devDo_any (v : Value) (D : Dev) (node : Int) (a : ActM) (w : World) (hD : DevAt w w.heap.size v D) (hm : MayD D) (hS : Small D 1099511627776) (ha : ActBd a) :
    Calls Try.prog 15 #[v, .int .i64 node, actV a] w (ActPost (doD D node a) (doS D node a) (refE D node a) w) := by
  obtain ⟨vS, vC, vK, vF, e1, _⟩ := id hD
  obtain ⟨k, s, t, key⟩ := a
  show Calls _ _ #[_, _, .agg #[.int .i8 k, .int .i64 s, .string t, .int .i64 key]] _ _
  obtain ⟨W0, hW⟩ : ∃ W0, W0 = ((w.alloc (.cells #[vS, vC, vK, .int .i64 D.n, vF] 29)).alloc (.cells #[.int .i8 k, .int .i64 s, .string t, .int .i64 key] 38)).alloc (.cells #[.slice none 0 0, .slice none 0 0, .slice none 0 0, .int .i64 0, .slice none 0 0] 29) := ⟨_, rfl⟩
  have hb0 : Below w.heap.size w W0 := by rw [hW]; exact (((Below.refl _ _).alloc (Nat.le_refl _) _).alloc (by simp) _).alloc (by simp; omega) _
  have x0 : Box4 W0 (w.heap.size + 1) k s t key := by
    have h1 := Blk.new (w.alloc (.cells #[vS, vC, vK, .int .i64 D.n, vF] 29)) #[.int .i8 k, .int .i64 s, .string t, .int .i64 key] 38
    have h2 := h1.alloc (.cells #[.slice none 0 0, .slice none 0 0, .slice none 0 0, .int .i64 0, .slice none 0 0] 29)
    have e : (w.alloc (.cells #[vS, vC, vK, .int .i64 D.n, vF] 29)).heap.size = w.heap.size + 1 := by simp
    rw [e, ← hW] at h2
    exact ⟨h2.cell 0 _ rfl, h2.cell 1 _ rfl, h2.cell 2 _ rfl, h2.cell 3 _ rfl⟩
  have hl0 : w.heap.size + 1 < W0.heap.size := by rw [hW]; simp
  have r0 : Blk W0 (w.heap.size + 1 + 1) #[.slice none 0 0, .slice none 0 0, .slice none 0 0, .int .i64 0, .slice none 0 0] 29 := by
    have h1 := Blk.new ((w.alloc (.cells #[vS, vC, vK, .int .i64 D.n, vF] 29)).alloc (.cells #[.int .i8 k, .int .i64 s, .string t, .int .i64 key] 38)) #[.slice none 0 0, .slice none 0 0, .slice none 0 0, .int .i64 0, .slice none 0 0] 29
    rw [← hW] at h1
    simpa using h1
  have hc := at_any _ D node W0 (hD.up hb0) hS
  subst e1
  clear hD
  go_enter Try.func15, Try.ntmps15
  go_wp2_with fail
  rw [← hW]
  clear hW
  refine hc.mono ?_
  rintro e w1 ⟨b, rfl, hA, hb1⟩
  have x1 := x0.below hb1 hl0
  have r1 := r0.below hb1 r0.lt
  have HA1 := Lib.hid hA
  have y0 := x1.c0
  have y1 := x1.c1
  have y2 := x1.c2
  have y3 := x1.c3
  have hl1 := hb1.size
  have hr0 := r0.lt
  have hc2 := refuses_all W0.heap.size b D node ⟨k, s, t, key⟩ w1 hA hm hS ha
  clear hc hA x0 r0
  go_wp2_with fail
  refine hc2.mono ?_
  rintro e w2 ⟨rfl, hb2⟩
  clear hc2 y0 y1 y2 y3
  have x2 := x1.below hb2 (by omega)
  have r2 := r1.below hb2 (by omega)
  have HA2 := Lib.hid (HA1.out.up hb2)
  have hbW := hb0.trans ((hb1.mono hb0.size).trans (hb2.mono (Nat.le_trans hb0.size hl1)))
  have hl2 := hb2.size
  clear HA1 x1 r1 hb1 hb2
  by_cases hE : refE D node ⟨k, s, t, key⟩ = 0
  · obtain ⟨i, rfl, hi, hae, hdd, hss⟩ := do_okay hE
    have HD := Lib.hid hdd
    have HSS := Lib.hid hss
    have HE := Lib.hid hE
    rw [hE]
    have hc3 := do_any W0.heap.size b D i ⟨k, s, t, key⟩ w2 HA2.out hm hi hS hae (by omega)
    have y0 := x2.c0
    have y1 := x2.c1
    have y2 := x2.c2
    have y3 := x2.c3
    clear HA2 hE hdd hss hae x2
    go_wp2_with fail
    refine hc3.mono ?_
    rintro e w3 ⟨rfl, ⟨aS, aC, aK, aF, f, hA3⟩, hb3⟩
    obtain ⟨qS, zS, rfl, -, -⟩ := own_shape2 hA3.d.s
    obtain ⟨qC, zC, rfl, -, -⟩ := own_shape2 hA3.d.c
    obtain ⟨qK, zK, rfl, -, -⟩ := own_shape2 hA3.d.k
    obtain ⟨qF, zF, rfl, -, -⟩ := own_shape2 hA3.d.ff
    have r3 := r2.below hb3 hr0
    obtain ⟨h1, h2, h3⟩ := into5_act (w := w) (B0 := w.heap.size) hA3 r3 rfl (by omega) (hbW.trans (hb3.mono (by omega))) (by omega)
    have H1 := Lib.hid h1
    have H2 := Lib.hid h2
    have H3 := Lib.hid h3
    have hbx := hA3.box
    have a0 := hbx.c0
    have a1 := hbx.c1
    have a2 := hbx.c2
    have a3 := hbx.c3
    have a4 := hbx.c4
    have d0 := r3.cell 0 _ rfl
    have d1 := r3.cell 1 _ rfl
    have d2 := r3.cell 2 _ rfl
    have d3 := r3.cell 3 _ rfl
    have d4 := r3.cell 4 _ rfl
    have f0 := r3.free 0
    have f1 := r3.free 1
    have f2 := r3.free 2
    have f3 := r3.free 3
    have f4 := r3.free 4
    clear hc3 h1 h2 h3 hbx hA3 r3 hb3 y0 y1 y2 y3
    go_wp2_with fail
    refine bodyPost_ret (results_c3 (cs := [.slice qS _ zS, .slice qC _ zC, .slice qK _ zK, .int .i64 (actD D i ⟨k, s, t, key⟩).n, .slice qF _ zF]) Try.results15 (by rfl) (by rfl) (by rfl) H1.out Try.underlying29 rfl (by kernel_rfl)) rfl ?_
    rw [HD.out, HSS.out, HE.out]
    exact actPost_of H2.out H3.out rfl
  · obtain ⟨hdd, hss⟩ := do_err hE
    have HD := Lib.hid hdd
    have HSS := Lib.hid hss
    have hne : (refE D node ⟨k, s, t, key⟩ == 0) = false := beq_no hE
    generalize refE D node ⟨k, s, t, key⟩ = E at *
    obtain ⟨aS, aC, aK, aF, f, hA3⟩ := HA2.out
    obtain ⟨qS, zS, rfl, -, -⟩ := own_shape2 hA3.d.s
    obtain ⟨qC, zC, rfl, -, -⟩ := own_shape2 hA3.d.c
    obtain ⟨qK, zK, rfl, -, -⟩ := own_shape2 hA3.d.k
    obtain ⟨qF, zF, rfl, -, -⟩ := own_shape2 hA3.d.ff
    obtain ⟨h1, h2, h3⟩ := into5_act (w := w) (B0 := w.heap.size) hA3 r2 rfl (by omega) hbW (by omega)
    have H1 := Lib.hid h1
    have H2 := Lib.hid h2
    have H3 := Lib.hid h3
    have hbx := hA3.box
    have a0 := hbx.c0
    have a1 := hbx.c1
    have a2 := hbx.c2
    have a3 := hbx.c3
    have a4 := hbx.c4
    have d0 := r2.cell 0 _ rfl
    have d1 := r2.cell 1 _ rfl
    have d2 := r2.cell 2 _ rfl
    have d3 := r2.cell 3 _ rfl
    have d4 := r2.cell 4 _ rfl
    have f0 := r2.free 0
    have f1 := r2.free 1
    have f2 := r2.free 2
    have f3 := r2.free 3
    have f4 := r2.free 4
    clear h1 h2 h3 hbx hA3 r2 x2 HA2 hdd hss hE
    go_wp2_with fail
    refine bodyPost_ret (results_c3 (cs := [.slice qS _ zS, .slice qC _ zC, .slice qK _ zK, .int .i64 D.n, .slice qF _ zF]) Try.results15 (by rfl) (by rfl) (by rfl) H1.out Try.underlying29 rfl (by kernel_rfl)) rfl ?_
    rw [HD.out, HSS.out]
    exact actPost_of H2.out H3.out rfl

end Go.Proofs.Ytleemgjbihdbgaa

/-
  The program's device: a crash, a start; whether a device may be, is fenced, what a cache has; a new one: by contract.
-/
namespace Go.Proofs.Ytleemgjbihdbgaa
open Go.RowKit
set_option linter.unusedVariables false
set_option linter.unusedSimpArgs false

theorem addr_block (a : Addr) (n : Nat) : (a.add n).block = a.block := by unfold Addr.add; split <;> rfl
/-- What comes of a crash, of a start. -/
def crD (D : Dev) (node : Int) (kept : Nat) : Dev := if NodeOk D node then crashD D node.toNat kept else D
def stD (D : Dev) (node : Int) : Dev := if NodeOk D node then startD D node.toNat else D
def nodeE (D : Dev) (node : Int) : Int := if NodeOk D node then 0 else 2

set_option maxRecDepth 100000 in
set_option maxHeartbeats 4000000 in
theorem devCrash_any (v : Value) (D : Dev) (node : Int) (kept : Nat) (w : World) (hD : DevAt w w.heap.size v D) (hm : MayD D) (hS : Small D 1099511627776) (hk64 : kept < 18446744073709551616) :
    Calls Try.prog 19 #[v, .int .i64 node, .int .u64 (kept : Int)] w (DevPost (crD D node kept) (nodeE D node) w) := by
  obtain ⟨vS, vC, vK, vF, e1, _⟩ := id hD
  obtain ⟨W0, hW⟩ : ∃ W0, W0 = (w.alloc (.cells #[vS, vC, vK, .int .i64 D.n, vF] 29)).alloc (.cells #[.slice none 0 0, .slice none 0 0, .slice none 0 0, .int .i64 0, .slice none 0 0] 29) := ⟨_, rfl⟩
  have hb0 : Below w.heap.size w W0 := by rw [hW]; exact ((Below.refl _ _).alloc (Nat.le_refl _) _).alloc (by simp) _
  have r0 : Blk W0 (w.heap.size + 1) #[.slice none 0 0, .slice none 0 0, .slice none 0 0, .int .i64 0, .slice none 0 0] 29 := by
    have h1 := Blk.new (w.alloc (.cells #[vS, vC, vK, .int .i64 D.n, vF] 29)) #[.slice none 0 0, .slice none 0 0, .slice none 0 0, .int .i64 0, .slice none 0 0] 29
    rw [← hW] at h1
    simpa using h1
  have hc := at_any _ D node W0 (hD.up hb0) hS
  subst e1
  clear hD
  go_enter Try.func19, Try.ntmps19
  go_wp2_with fail
  rw [← hW]
  clear hW
  refine hc.mono ?_
  rintro e w1 ⟨b, rfl, hA, hb1⟩
  have r1 := r0.below hb1 r0.lt
  have HA1 := Lib.hid hA
  have hl1 := hb1.size
  have hr0 := r0.lt
  have hc2 := isThere_all W0.heap.size b D node w1 hA hm hS
  clear hc hA r0
  by_cases hN : NodeOk D node
  · rw [decide_eq_true hN] at hc2
    have HP0 : Hid ((crD D node kept) = (crashD D node.toNat kept)) := if_pos hN
    have HE : Hid (nodeE D node = 0) := if_pos hN
    obtain ⟨i, hi0⟩ := Int.eq_ofNat_of_zero_le hN.1
    have hi : i < D.K.length := by have := hN.2; omega
    subst hi0
    go_wp2_with fail
    refine hc2.mono ?_
    rintro e w2 ⟨rfl, hb2⟩
    clear hc2
    have r2 := r1.below hb2 (by omega)
    have hbW := hb0.trans ((hb1.mono hb0.size).trans (hb2.mono (Nat.le_trans hb0.size hl1)))
    have hl2 := hb2.size
    have hc3 := crash_any W0.heap.size b D i kept w2 (HA1.out.up hb2) (by rw [hm.ck]; exact hi) hi hm hS (by omega) hk64
    clear r1 HA1 hb1 hb2
    go_wp2_with fail
    refine hc3.mono ?_
    rintro e w3 ⟨rfl, ⟨aS, aC, aK, aF, f, hA3⟩, hb3⟩
    obtain ⟨qS, zS, rfl, -, -⟩ := own_shape2 hA3.d.s
    obtain ⟨qC, zC, rfl, -, -⟩ := own_shape2 hA3.d.c
    obtain ⟨qK, zK, rfl, -, -⟩ := own_shape2 hA3.d.k
    obtain ⟨qF, zF, rfl, -, -⟩ := own_shape2 hA3.d.ff
    have r3 := r2.below hb3 hr0
    obtain ⟨h1, h2, h3⟩ := into5_act (w := w) (B0 := w.heap.size) hA3 r3 rfl (by omega) (hbW.trans (hb3.mono (by omega))) (by omega)
    have H1 := Lib.hid h1
    have H2 := Lib.hid h2
    have H3 := Lib.hid h3
    have hbx := hA3.box
    have a0 := hbx.c0
    have a1 := hbx.c1
    have a2 := hbx.c2
    have a3 := hbx.c3
    have a4 := hbx.c4
    have d0 := r3.cell 0 _ rfl
    have d1 := r3.cell 1 _ rfl
    have d2 := r3.cell 2 _ rfl
    have d3 := r3.cell 3 _ rfl
    have d4 := r3.cell 4 _ rfl
    have f0 := r3.free 0
    have f1 := r3.free 1
    have f2 := r3.free 2
    have f3 := r3.free 3
    have f4 := r3.free 4
    clear hc3 h1 h2 h3 hbx hA3 r3 hb3
    go_wp2_with fail
    refine bodyPost_ret (results_c2 (cs := [.slice qS _ zS, .slice qC _ zC, .slice qK _ zK, .int .i64 (crashD D i kept).n, .slice qF _ zF]) Try.results19 (by rfl) (by rfl) H1.out Try.underlying29 rfl (by kernel_rfl)) rfl ?_
    rw [HP0.out, HE.out]
    exact devPost_of H2.out H3.out rfl
  · rw [decide_eq_false hN] at hc2
    have HP0 : Hid ((crD D node kept) = D) := if_neg hN
    have HE : Hid (nodeE D node = 2) := if_neg hN
    clear hN
    go_wp2_with fail
    refine hc2.mono ?_
    rintro e w2 ⟨rfl, hb2⟩
    clear hc2
    have r2 := r1.below hb2 (by omega)
    have hbW := hb0.trans ((hb1.mono hb0.size).trans (hb2.mono (Nat.le_trans hb0.size hl1)))
    obtain ⟨aS, aC, aK, aF, f, hA3⟩ := HA1.out.up hb2
    obtain ⟨qS, zS, rfl, -, -⟩ := own_shape2 hA3.d.s
    obtain ⟨qC, zC, rfl, -, -⟩ := own_shape2 hA3.d.c
    obtain ⟨qK, zK, rfl, -, -⟩ := own_shape2 hA3.d.k
    obtain ⟨qF, zF, rfl, -, -⟩ := own_shape2 hA3.d.ff
    obtain ⟨h1, h2, h3⟩ := into5_act (w := w) (B0 := w.heap.size) hA3 r2 rfl (by omega) hbW (by omega)
    have H1 := Lib.hid h1
    have H2 := Lib.hid h2
    have H3 := Lib.hid h3
    have hbx := hA3.box
    have a0 := hbx.c0
    have a1 := hbx.c1
    have a2 := hbx.c2
    have a3 := hbx.c3
    have a4 := hbx.c4
    have d0 := r2.cell 0 _ rfl
    have d1 := r2.cell 1 _ rfl
    have d2 := r2.cell 2 _ rfl
    have d3 := r2.cell 3 _ rfl
    have d4 := r2.cell 4 _ rfl
    have f0 := r2.free 0
    have f1 := r2.free 1
    have f2 := r2.free 2
    have f3 := r2.free 3
    have f4 := r2.free 4
    clear h1 h2 h3 hbx hA3 r2 r1 HA1
    go_wp2_with fail
    refine bodyPost_ret (results_c2 (cs := [.slice qS _ zS, .slice qC _ zC, .slice qK _ zK, .int .i64 D.n, .slice qF _ zF]) Try.results19 (by rfl) (by rfl) H1.out Try.underlying29 rfl (by kernel_rfl)) rfl ?_
    rw [HP0.out, HE.out]
    exact devPost_of H2.out H3.out rfl

set_option maxRecDepth 100000 in
set_option maxHeartbeats 4000000 in
theorem devStart_any (v : Value) (D : Dev) (node : Int) (w : World) (hD : DevAt w w.heap.size v D) (hm : MayD D) (hS : Small D 1099511627776) :
    Calls Try.prog 24 #[v, .int .i64 node] w (DevPost (stD D node) (nodeE D node) w) := by
  obtain ⟨vS, vC, vK, vF, e1, _⟩ := id hD
  obtain ⟨W0, hW⟩ : ∃ W0, W0 = (w.alloc (.cells #[vS, vC, vK, .int .i64 D.n, vF] 29)).alloc (.cells #[.slice none 0 0, .slice none 0 0, .slice none 0 0, .int .i64 0, .slice none 0 0] 29) := ⟨_, rfl⟩
  have hb0 : Below w.heap.size w W0 := by rw [hW]; exact ((Below.refl _ _).alloc (Nat.le_refl _) _).alloc (by simp) _
  have r0 : Blk W0 (w.heap.size + 1) #[.slice none 0 0, .slice none 0 0, .slice none 0 0, .int .i64 0, .slice none 0 0] 29 := by
    have h1 := Blk.new (w.alloc (.cells #[vS, vC, vK, .int .i64 D.n, vF] 29)) #[.slice none 0 0, .slice none 0 0, .slice none 0 0, .int .i64 0, .slice none 0 0] 29
    rw [← hW] at h1
    simpa using h1
  have hc := at_any _ D node W0 (hD.up hb0) hS
  subst e1
  clear hD
  go_enter Try.func24, Try.ntmps24
  go_wp2_with fail
  rw [← hW]
  clear hW
  refine hc.mono ?_
  rintro e w1 ⟨b, rfl, hA, hb1⟩
  have r1 := r0.below hb1 r0.lt
  have HA1 := Lib.hid hA
  have hl1 := hb1.size
  have hr0 := r0.lt
  have hc2 := isThere_all W0.heap.size b D node w1 hA hm hS
  clear hc hA r0
  by_cases hN : NodeOk D node
  · rw [decide_eq_true hN] at hc2
    have HP0 : Hid ((stD D node) = (startD D node.toNat)) := if_pos hN
    have HE : Hid (nodeE D node = 0) := if_pos hN
    obtain ⟨i, hi0⟩ := Int.eq_ofNat_of_zero_le hN.1
    have hi : i < D.K.length := by have := hN.2; omega
    subst hi0
    go_wp2_with fail
    refine hc2.mono ?_
    rintro e w2 ⟨rfl, hb2⟩
    clear hc2
    have r2 := r1.below hb2 (by omega)
    have hbW := hb0.trans ((hb1.mono hb0.size).trans (hb2.mono (Nat.le_trans hb0.size hl1)))
    have hl2 := hb2.size
    have hc3 := start_any W0.heap.size b D i w2 (HA1.out.up hb2) (by rw [hm.ck]; exact hi) hi (by omega)
    clear r1 HA1 hb1 hb2
    go_wp2_with fail
    refine hc3.mono ?_
    rintro e w3 ⟨rfl, ⟨aS, aC, aK, aF, f, hA3⟩, hb3⟩
    obtain ⟨qS, zS, rfl, -, -⟩ := own_shape2 hA3.d.s
    obtain ⟨qC, zC, rfl, -, -⟩ := own_shape2 hA3.d.c
    obtain ⟨qK, zK, rfl, -, -⟩ := own_shape2 hA3.d.k
    obtain ⟨qF, zF, rfl, -, -⟩ := own_shape2 hA3.d.ff
    have r3 := r2.below hb3 hr0
    obtain ⟨h1, h2, h3⟩ := into5_act (w := w) (B0 := w.heap.size) hA3 r3 rfl (by omega) (hbW.trans (hb3.mono (by omega))) (by omega)
    have H1 := Lib.hid h1
    have H2 := Lib.hid h2
    have H3 := Lib.hid h3
    have hbx := hA3.box
    have a0 := hbx.c0
    have a1 := hbx.c1
    have a2 := hbx.c2
    have a3 := hbx.c3
    have a4 := hbx.c4
    have d0 := r3.cell 0 _ rfl
    have d1 := r3.cell 1 _ rfl
    have d2 := r3.cell 2 _ rfl
    have d3 := r3.cell 3 _ rfl
    have d4 := r3.cell 4 _ rfl
    have f0 := r3.free 0
    have f1 := r3.free 1
    have f2 := r3.free 2
    have f3 := r3.free 3
    have f4 := r3.free 4
    clear hc3 h1 h2 h3 hbx hA3 r3 hb3
    go_wp2_with fail
    refine bodyPost_ret (results_c2 (cs := [.slice qS _ zS, .slice qC _ zC, .slice qK _ zK, .int .i64 (startD D i).n, .slice qF _ zF]) Try.results24 (by rfl) (by rfl) H1.out Try.underlying29 rfl (by kernel_rfl)) rfl ?_
    rw [HP0.out, HE.out]
    exact devPost_of H2.out H3.out rfl
  · rw [decide_eq_false hN] at hc2
    have HP0 : Hid ((stD D node) = D) := if_neg hN
    have HE : Hid (nodeE D node = 2) := if_neg hN
    clear hN
    go_wp2_with fail
    refine hc2.mono ?_
    rintro e w2 ⟨rfl, hb2⟩
    clear hc2
    have r2 := r1.below hb2 (by omega)
    have hbW := hb0.trans ((hb1.mono hb0.size).trans (hb2.mono (Nat.le_trans hb0.size hl1)))
    obtain ⟨aS, aC, aK, aF, f, hA3⟩ := HA1.out.up hb2
    obtain ⟨qS, zS, rfl, -, -⟩ := own_shape2 hA3.d.s
    obtain ⟨qC, zC, rfl, -, -⟩ := own_shape2 hA3.d.c
    obtain ⟨qK, zK, rfl, -, -⟩ := own_shape2 hA3.d.k
    obtain ⟨qF, zF, rfl, -, -⟩ := own_shape2 hA3.d.ff
    obtain ⟨h1, h2, h3⟩ := into5_act (w := w) (B0 := w.heap.size) hA3 r2 rfl (by omega) hbW (by omega)
    have H1 := Lib.hid h1
    have H2 := Lib.hid h2
    have H3 := Lib.hid h3
    have hbx := hA3.box
    have a0 := hbx.c0
    have a1 := hbx.c1
    have a2 := hbx.c2
    have a3 := hbx.c3
    have a4 := hbx.c4
    have d0 := r2.cell 0 _ rfl
    have d1 := r2.cell 1 _ rfl
    have d2 := r2.cell 2 _ rfl
    have d3 := r2.cell 3 _ rfl
    have d4 := r2.cell 4 _ rfl
    have f0 := r2.free 0
    have f1 := r2.free 1
    have f2 := r2.free 2
    have f3 := r2.free 3
    have f4 := r2.free 4
    clear h1 h2 h3 hbx hA3 r2 r1 HA1
    go_wp2_with fail
    refine bodyPost_ret (results_c2 (cs := [.slice qS _ zS, .slice qC _ zC, .slice qK _ zK, .int .i64 D.n, .slice qF _ zF]) Try.results24 (by rfl) (by rfl) H1.out Try.underlying29 rfl (by kernel_rfl)) rfl ?_
    rw [HP0.out, HE.out]
    exact devPost_of H2.out H3.out rfl

set_option maxRecDepth 100000 in
theorem devCheck_any (v : Value) (D : Dev) (b : Bool) (w : World) (hD : DevAt w w.heap.size v D) (hS : D.S.length ≤ 1099511627776) (hb : sMayB D.S = b) (hm : b = true → MayD D) :
    Calls Try.prog 13 #[v] w fun e w' => e = .returned (.int .i64 (if b then 0 else 2)) ∧ Below w.heap.size w w' := by
  obtain ⟨vS, vC, vK, vF, e1, _⟩ := id hD
  obtain ⟨W0, hW⟩ : ∃ W0, W0 = w.alloc (.cells #[vS, vC, vK, .int .i64 D.n, vF] 29) := ⟨_, rfl⟩
  have hb0 : Below w.heap.size w W0 := hW ▸ below_alloc w _
  have hc := may_any _ D b W0 (hD.up hb0) hS hb hm
  subst e1
  clear hD hb hm
  cases b
  all_goals go_enter Try.func13, Try.ntmps13
  all_goals go_wp2_with fail
  all_goals rw [← hW]
  all_goals refine hc.mono ?_
  all_goals rintro e w1 ⟨rfl, hb1⟩
  all_goals go_wp2_with fail
  all_goals go_ret
  all_goals exact ⟨rfl, below_then hb0 hb1⟩

set_option maxRecDepth 100000 in
theorem devFenced_any (v : Value) (D : Dev) (A : Option Addr) (n c : Nat) (keys : List Int) (w : World) (hD : DevAt w w.heap.size v D) (hA : Lies w w.heap.size A n (keys.map (Value.int .i64))) (hl : keys.length = n) (hn : n ≤ maxLen) :
    Calls Try.prog 16 #[v, .slice A n c] w fun e w' => e = .returned (.bool (fencedAny D.F keys)) ∧ Below w.heap.size w w' := by
  obtain ⟨vS, vC, vK, vF, e1, _⟩ := id hD
  obtain ⟨W0, hW⟩ : ∃ W0, W0 = w.alloc (.cells #[vS, vC, vK, .int .i64 D.n, vF] 29) := ⟨_, rfl⟩
  have hb0 : Below w.heap.size w W0 := hW ▸ below_alloc w _
  have hc := isFenced_any _ D A n c keys W0 (hD.up hb0) (lies_up hA hb0) hl hn
  subst e1
  clear hD hA
  go_enter Try.func16, Try.ntmps16
  go_wp2_with fail
  rw [← hW]
  refine hc.mono ?_
  rintro e w1 ⟨rfl, hb1⟩
  go_wp2_with fail
  go_ret
  exact ⟨rfl, below_then hb0 hb1⟩

set_option maxRecDepth 100000 in
theorem devCached_any (v : Value) (D : Dev) (i : Nat) (w : World) (hD : DevAt w w.heap.size v D) (hi : i < D.C.length) :
    Calls Try.prog 18 #[v, .int .i64 (i : Int)] w fun e w' => e = .returned (.int .i64 ((cacheOf D i).length : Int)) ∧ Below w.heap.size w w' := by
  obtain ⟨vS, vC, vK, vF, rfl, _, ⟨aC, cC, rfl, hCc, hCm, f, hC, hCs⟩, _, _⟩ := hD
  obtain ⟨ad, a, m, c, rfl, hab, hcc, e2, hml, hmc, hcm, hla⟩ := slC_at hC hCs rfl hi
  obtain ⟨W0, hW⟩ : ∃ W0, W0 = w.alloc (.cells #[vS, .slice (some ad) D.C.length cC, vK, .int .i64 D.n, vF] 29) := ⟨_, rfl⟩
  have hb0 : Below w.heap.size w W0 := hW ▸ below_alloc w _
  have hcc0 : W0.cell? (ad.add i) = some (.slice a m c) := (hb0.cell (p := ad.add i) (by rw [addr_block]; exact hab)).trans hcc
  have c1 : W0.cell? ⟨w.heap.size, 1, none⟩ = some (.slice (some ad) D.C.length cC) := hW ▸ (Blk.new w _ _).cell 1 _ rfl
  rw [hW] at hcc0 c1
  have hml' : (cacheOf D i).length = m := hml
  rw [hml']
  have i0 : (0 : Int) ≤ (i : Int) := by omega
  have i1 : (i : Int) < (D.C.length : Int) := by omega
  have d0 : decide ((i : Int) < 0) = false := decide_eq_false (by omega)
  have d1 : decide (D.C.length ≤ i) = false := decide_eq_false (by omega)
  have d2 : decide ((D.C.length : Int) ≤ (i : Int)) = false := decide_eq_false (by omega)
  generalize D.C.length = nC at *
  clear hC hCs hla e2 hml hml' hcc
  go_enter Try.func18, Try.ntmps18
  go_wp2_with fail
  go_ret
  exact ⟨rfl, hW ▸ hb0⟩

end Go.Proofs.Ytleemgjbihdbgaa
