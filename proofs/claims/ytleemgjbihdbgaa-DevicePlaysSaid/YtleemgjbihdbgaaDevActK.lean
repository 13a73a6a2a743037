/-
  The program's actor: a key is fenced: by contract.
-/
import Derived.Test.YtleemgjbihdbgaaJoinDevActJ
import Derived.Test.YtleemgjbihdbgaaDevInsert
namespace Go.Proofs.Ytleemgjbihdbgaa
open Go.RowKit
set_option linter.unusedVariables false
set_option linter.unusedSimpArgs false

section
variable {w w1 : World} {B b : Nat} {vS vC vK vF : Value} {f : Nat → Value} {D : Dev} {node : Int}
theorem apart_none {v : Option Nat} {row : Option Nat} (h : ∀ g, row = some g → v = none ∨ v ≠ some g) : v = none ∨ v ≠ row := by
  cases v with
  | none => exact .inl rfl
  | some x =>
    cases row with
    | none => exact .inr (by simp)
    | some g => exact h g rfl
theorem OwnD.turnF (h : OwnD w B vS vC vK vF f D) (hg : w.grownBy w1 vF.ownBlock) {u : Value} {l : List Int} (hu : w1.ownsRow B 3 1 u l.length (l.map (Value.int .i64))) (hub : u.ownBlock = vF.ownBlock ∨ ∀ x, u.ownBlock = some x → w.heap.size ≤ x) :
    OwnD w1 B vS vC vK u f { D with F := l } := by
  refine ⟨h.s.kept hg (apart_none fun g hg2 => own_apart h.s h.ff (by decide) hg2), h.c.kept hg (apart_none fun g hg2 => own_apart h.c h.ff (by decide) hg2), h.k.kept hg (apart_none fun g hg2 => .inr fun e => h.kf g e hg2), hu, fun i hi => (h.cs i hi).kept hg (apart_none fun g hg2 => own_apart (h.cs i hi) h.ff (by decide) hg2), fun x hx e => ?_, h.cc⟩
  rcases hub with h2 | h2
  · exact h.kf x hx (h2 ▸ e)
  · have a1 := h2 x e
    have a2 := (h.k.lt x hx).2
    omega
/-- The fenced keys are another row. -/
theorem ActAt.swapF (h : ActAt w B b vS vC vK vF f D node) (hg : w.grownBy w1 vF.ownBlock) {u : Value} {l : List Int} (hu : w1.ownsRow B 3 1 u l.length (l.map (Value.int .i64))) (hub : u.ownBlock = vF.ownBlock ∨ ∀ x, u.ownBlock = some x → w.heap.size ≤ x) :
    ActAt (w1.setCell ⟨b, 4, none⟩ u) B b vS vC vK u f { D with F := l } node := by
  have hb : vF.ownBlock ≠ some b := fun e => own_blk h.d.ff h.a (by decide) e rfl
  have ha : Blk w1 b #[vS, vC, vK, .int .i64 D.n, vF, .int .i64 node] 73 := (hg.block b h.a.lt (fun e => hb e.symm)).trans h.a
  have hd := h.d.turnF hg hu hub
  have key : ∀ {e : TypeId} {size : Nat} {v : Value} {n : Nat} {xs : List Value}, w1.ownsRow B e size v n xs → e ≠ 73 → (w1.setCell ⟨b, 4, none⟩ u).ownsRow B e size v n xs := by
    intro e size v n xs hv hne
    refine ownsRow_setCell_other hv (fun hb => ?_) u
    exact own_blk hv ha hne hb rfl
  exact ⟨⟨key hd.s (by decide), key hd.c (by decide), key hd.k (by decide), key hd.ff (by decide), fun i hi => key (hd.cs i hi) (by decide), hd.kf, hd.cc⟩, ha.set 4 u, h.hb⟩
end

set_option maxRecDepth 100000 in
set_option maxHeartbeats 2000000 in
theorem fence_any (B b : Nat) (D : Dev) (node key : Int) (w : World) (h : ActorAt w B b D node) (hr : D.F.Pairwise (· < ·)) (hS : D.F.length ≤ 1099511627776) (hB : B ≤ w.heap.size) :
    Calls Try.prog 57 #[.pointer (some ⟨b, 0, none⟩), .int .i64 key] w fun e w' => e = .returned (.tuple #[]) ∧ ActorAt w' B b (fencesD D key) node ∧ Below B w w' := by
  obtain ⟨vS, vC, vK, vF, f, h⟩ := h
  have hbx := h.box
  have hc := search_any B D.F.length vF D.F key w h.d.ff hS hr
  have c4 := hbx.c4
  cases hin : D.F.contains key with
  | true =>
    rw [hin] at hc
    have hmem : key ∈ D.F := by simpa using hin
    have HF : Hid (fencesD D key = D) := by
      show fencesD D key = D
      unfold fencesD
      rw [fence_there hr hmem]
    clear hr
    have H := Lib.hid h
    clear h hbx hmem hin
    go_enter Try.func57, Try.ntmps57
    go_wp2_with fail
    refine hc.mono ?_
    rintro e w1 ⟨rfl, q, rfl⟩
    go_wp2_with fail
    go_end0
    refine ⟨rfl, ?_, drewN_below _ _ _⟩
    rw [HF.out]
    exact ⟨_, _, _, _, _, H.out.up (drewN_below _ _ _)⟩
  | false =>
    rw [hin] at hc
    have hmem : key ∉ D.F := by simpa using hin
    obtain ⟨i, hi⟩ : ∃ i, D.F.countP (· < key) = i := ⟨_, rfl⟩
    have hil : i ≤ D.F.length := by rw [← hi]; exact List.countP_le_length
    have HF : Hid (fencesD D key = { D with F := D.F.take i ++ key :: D.F.drop i }) := by
      show fencesD D key = _
      unfold fencesD
      rw [fence_new hr hmem, hi]
    rw [hi] at hc
    have hlen : (D.F.take i ++ key :: D.F.drop i).length = D.F.length + 1 := by simp; omega
    have hHB := h.hb
    have HSTEP : Hid (∀ q : Nat, Calls Try.prog 72 #[vF, .int .i64 (i : Int), .slice (some ⟨w.heap.size, 0, none⟩) 1 1] ((w.alloc (.cells #[.int .i64 key] 3)).drewN q) fun e w' => ∃ A n c, e = .returned (.slice A n c) ∧ w'.cell? ⟨b, 4, none⟩ = some vF ∧ w'.frozen? ⟨b, 4, none⟩ = false ∧ Hid (ActorAt (w'.setCell ⟨b, 4, none⟩ (.slice A n c)) B b (fencesD D key) node ∧ Below B w (w'.setCell ⟨b, 4, none⟩ (.slice A n c)))) := by
      intro q
      have hup : Below w.heap.size w ((w.alloc (.cells #[.int .i64 key] 3)).drewN q) := (below_alloc w _).trans (drewN_below _ _ _)
      have hA := h.up hup
      have hx : Blk ((w.alloc (.cells #[.int .i64 key] 3)).drewN q) w.heap.size #[.int .i64 key] 3 := Blk.new w _ _
      have hvb : vF.ownBlock ≠ some w.heap.size := fun e => by have := (h.d.ff.lt _ e).2; omega
      refine (insert_any B D.F.length i w.heap.size vF D.F key _ hA.d.ff hil hS (Nat.le_trans hB hup.size) hx hvb).mono ?_
      rintro e w' ⟨u, rfl, hown, hg, hub⟩
      have hA2 := hA.swapF (l := D.F.take i ++ key :: D.F.drop i) hg (by rw [hlen]; exact hown) hub
      have hb : vF.ownBlock ≠ some b := fun e => own_blk h.d.ff h.a (by decide) e rfl
      have ha := (hg.block b hA.a.lt (fun e => hb e.symm)).trans hA.a
      obtain ⟨A, c, rfl, _, _⟩ := own_shape2 hown
      refine ⟨A, _, c, rfl, Blk.cell ha 4 _ rfl, Blk.free ha 4, ?_, ?_⟩
      · rw [HF.out]
        exact ⟨_, _, _, _, _, hA2⟩
      · exact ((hup.mono hB).trans (below_grown_by hg (Nat.le_trans hB hup.size) (fun k hk => (h.d.ff.lt k hk).1))).setCell (by simpa using hHB) _
    clear hr hmem hin hi hil hlen h hbx HF hHB
    go_enter Try.func57, Try.ntmps57
    go_wp2_with fail
    refine hc.mono ?_
    rintro e w1 ⟨rfl, q, rfl⟩
    have hi0 : (0 : Int) ≤ (i : Int) := by omega
    go_wp2_with fail
    refine (HSTEP.out q).mono ?_
    rintro e w2 ⟨A, n, c, rfl, k4, kf, HK⟩
    clear hc HSTEP c4
    go_wp2_with fail
    go_end0
    exact ⟨rfl, HK.out.1, HK.out.2⟩

end Go.Proofs.Ytleemgjbihdbgaa
