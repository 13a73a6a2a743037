/-
  The program's actor: a register: by contract.
-/
import Derived.Test.YteighdlhonegpaaDevActI
namespace Go.Proofs.Yteighdlhonegpaa
open Go.RowKit
set_option linter.unusedVariables false
set_option linter.unusedSimpArgs false

theorem key6_enc (x : Int) : strOfNums (enc 6 x) = key6 x := by
  unfold strOfNums key6
  have e1 : x / 256 / 256 = x / 65536 := by omega
  have e2 : x / 65536 / 256 = x / 16777216 := by omega
  have e3 : x / 16777216 / 256 = x / 4294967296 := by omega
  have e4 : x / 4294967296 / 256 = x / 1099511627776 := by omega
  simp only [enc, e1, e2, e3, e4, List.range, List.range.loop, List.map_cons, List.map_nil]
  simp

/-- The bytes of a key, of one number put. -/
theorem key_put {key : Int} (h0 : 0 ≤ key) (h1 : key ≤ 1099511627776) {w : World} {e : Ending} {w' : World} (h : PutPost 6 [] [key] w e w') :
    Below w.heap.size w w' ∧ ∃ A c, e = .returned (.tuple #[.slice A 6 c, .int .i64 0]) ∧ Lies w' w'.heap.size A 6 ((enc 6 key).map (Value.int .u8)) := by
  obtain ⟨hb, h2⟩ := h
  have hf : fitsB 6 key = true := fitsB_yes (by omega) (by omega) h0 (by simpa [mostOf] using h1)
  have hx : (mayB 6 && [key].all (fitsB 6)) = true := by simp [hf, mayB]
  rcases h2 with ⟨h3, _⟩ | ⟨_, v, e2, hown⟩
  · rw [hx] at h3; cases h3
  · have e3 : ([] : List Int) ++ encs (6 : Int).toNat [key] = enc 6 key := by simp [encs]
    rw [e3] at hown
    obtain ⟨A, c, rfl, _, _⟩ := own_shape2 hown
    exact ⟨hb, A, c, e2, Lies.of_own hown⟩

set_option maxRecDepth 100000 in
set_option maxHeartbeats 4000000 in
theorem register_any (B b : Nat) (D : Dev) (i : Nat) (w : World) (h : ActorAt w B b D (i : Int)) (hi : i < D.C.length) (hk : i < D.K.length) (h16 : D.K.length ≤ 16) (hn1 : 1 ≤ D.n) (hn2 : D.n < 68719476736) (hB : B ≤ w.heap.size) :
    Calls Try.prog 58 #[.pointer (some ⟨b, 0, none⟩)] w fun e w' => e = .returned (.string (key6 (16 * D.n + (i : Int)))) ∧ ActorAt w' B b (registerD D i) (i : Int) ∧ Below B w w' := by
  obtain ⟨vS, vC, vK, vF, f, h⟩ := h
  have hbx := h.box
  obtain ⟨gk, cap, rfl, hgB, hgl, hne, hd, hz⟩ := act_key h hk
  obtain ⟨key, hkey⟩ : ∃ key, 16 * D.n + (i : Int) = key := ⟨_, rfl⟩
  have hk0 : 0 ≤ key := by omega
  have hk1 : key ≤ 1099511627776 := by omega
  obtain ⟨W, hW⟩ : ∃ W, W = (w.setCell ⟨gk, i, none⟩ (.int .i64 key)).setCell ⟨b, 3, none⟩ (.int .i64 (D.n + 1)) := ⟨_, rfl⟩
  have hA := (h.setK rfl i key).setN (D.n + 1)
  have HB : Hid (Below B w W) := by show Below B w W; rw [hW]; exact ((Below.refl B w).setCell (by simpa using hgB) _).setCell (by simpa using h.hb) _
  have HFG : Hid (Calls Try.prog 62 #[.pointer (some ⟨b, 0, none⟩)] W.drew.drew fun e w' => e = .returned (.tuple #[]) ∧ ActorAt w' B b (registerD D i) (i : Int) ∧ Below B w w') := by
    have hl : Below W.heap.size W W.drew.drew := (Below.refl _ _).drew.drew
    have hA2 : ActorAt W.drew.drew B b { D with K := D.K.set i key, n := D.n + 1 } (i : Int) := ⟨_, _, _, _, _, (hW ▸ hA).up hl⟩
    refine (forget_any B b _ i _ hA2 hi).mono ?_
    rintro e w' ⟨rfl, h2, h3⟩
    refine ⟨rfl, ?_, HB.out.drew.drew.trans h3⟩
    unfold registerD
    rw [hkey]
    exact h2
  have HKEY : Hid (key6 (16 * D.n + (i : Int)) = strOfNums (enc 6 key)) := by show key6 _ = _; rw [hkey, key6_enc]
  have c2 := hbx.c2
  have c3 := hbx.c3
  have c5 := hbx.c5
  have f3 := h.a.free 3
  have i0 : (0 : Int) ≤ (i : Int) := by omega
  have i1 : (i : Int) < (D.K.length : Int) := by omega
  have hne2 : gk ≠ b := fun e => hne e.symm
  have w1 : IntKind.i64.wrap (16 * D.n) = 16 * D.n := IntWalk.i64_in _ (by omega)
  have w2 : IntKind.i64.wrap (16 * D.n + (i : Int)) = key := by rw [hkey]; exact IntWalk.i64_in _ (by omega)
  have n1 : 1 ≤ D.n + 1 := by omega
  have n2 : D.n + 1 ≤ 68719476736 := by omega
  generalize D.K[i] = kOld at *
  generalize D.K.length = nK at *
  rw [hkey]
  clear h hbx hA hkey
  generalize D.n = n at *
  go_enter Try.func58, Try.ntmps58
  go_wp2_with fail
  go_region_held3 (fun w' => w'.cell? ⟨b, 3, none⟩ = some (.int .i64 n) ∧ w'.cell? ⟨b, 5, none⟩ = some (.int .i64 (i : Int))) (go_keep) (fail)
  clear w1 w2
  go_wp2_with fail
  go_region_held3 (fun w' => w'.cell? ⟨b, 2, none⟩ = some (.slice (some ⟨gk, 0, none⟩) nK cap) ∧ w'.cell? ⟨b, 5, none⟩ = some (.int .i64 (i : Int))) (go_keep) (fail)
  go_wp2_with fail
  rw [← hW]
  refine HFG.out.mono ?_
  rintro e w3 ⟨rfl, hA3, hb3⟩
  have HA3 := Lib.hid hA3
  have HB3 := Lib.hid hb3
  clear hA3 hb3 HFG hW HB c2 c3 c5 f3 hd hz
  obtain ⟨WP, hWP⟩ : ∃ WP, WP = w3.alloc (.cells #[.int .i64 key] 3) := ⟨_, rfl⟩
  have hbP : Below w3.heap.size w3 WP := hWP ▸ below_alloc w3 _
  have hput := numPut_any 6 none (some ⟨w3.heap.size, 0, none⟩) 0 1 0 1 [] [key] WP ⟨rfl, fun h => by omega⟩ (by
    rw [hWP]
    exact lies_one w3 key _) (by omega) (by omega)
  go_wp2_with fail
  rw [← hWP]
  clear hWP
  refine hput.mono ?_
  intro e w4 hpost
  obtain ⟨hb4, A, c, rfl, hL⟩ := key_put hk0 hk1 hpost
  have HB4 := Lib.hid hb4
  have HL := Lib.hid hL
  have hcv : (convert 49 9 (.slice A 6 c)).run Try.prog w4 = .ok (.string (strOfNums (enc 6 key))) w4 :=
    conv_lies 49 9 5 Try.underlying49 Try.underlying5 Try.underlying9 hL
  clear hpost hb4 hL hput
  go_wp2_with fail
  go_ret
  have hb5 : Below w3.heap.size w3 w4 := hbP.trans (HB4.out.mono hbP.size)
  refine ⟨by rw [← key6_enc]; rfl, HA3.out.up hb5, HB3.out.trans (hb5.mono ?_)⟩
  exact Nat.le_trans hB HB3.out.size

end Go.Proofs.Yteighdlhonegpaa
