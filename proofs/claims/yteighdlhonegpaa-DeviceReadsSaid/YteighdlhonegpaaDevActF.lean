/-
  The program's actor: what it reads, forces: by contract.
-/
import Derived.Test.YteighdlhonegpaaDevActE
namespace Go.Proofs.Yteighdlhonegpaa
open Go.RowKit
set_option linter.unusedVariables false
set_option linter.unusedSimpArgs false

section
variable {w : World} {B b : Nat} {vS vC vK vF : Value} {f : Nat → Value} {D : Dev} {node : Int}
theorem act_sector (h : ActAt w B b vS vC vK vF f D node) {s : Nat} (hs : s < D.S.length) :
    ∃ gs cap, vS = .slice (some ⟨gs, 0, none⟩) D.S.length cap ∧ B ≤ gs ∧ gs < w.heap.size ∧ b ≠ gs ∧ w.cell? ⟨gs, s, none⟩ = some (.string (D.S[s])) ∧ w.frozen? ⟨gs, s, none⟩ = false := by
  obtain ⟨gs, cap, e, h1, h2⟩ := h.d.s.form (by omega)
  have ho := h.d.s
  have hne : b ≠ gs := own_blk ho h.a (by decide) (by rw [e]; rfl)
  rw [e] at ho
  refine ⟨gs, cap, e, h1, h2, hne, ?_, ho.frozenAt s⟩
  rw [ho.cellAt s (by omega)]
  simp [strV, hs]
theorem act_cell (h : ActAt w B b vS vC vK vF f D node) {i : Nat} (hi : i < D.C.length) {k : Nat} (hk : k < (cacheOf D i).length) :
    ∃ ga c, f i = .slice (some ⟨ga, 0, none⟩) (cacheOf D i).length c ∧ B ≤ ga ∧ ga < w.heap.size ∧ b ≠ ga ∧ (∀ gc, vC.ownBlock = some gc → gc ≠ ga) ∧ (∀ gs, vS.ownBlock = some gs → gs ≠ ga) ∧
      w.cell? ⟨ga, k * 2, none⟩ = some (.int .i64 ((cacheOf D i)[k]).1) ∧ w.cell? ⟨ga, k * 2 + 1, none⟩ = some (.string ((cacheOf D i)[k]).2) ∧ w.frozen? ⟨ga, k * 2, none⟩ = false ∧ w.frozen? ⟨ga, k * 2 + 1, none⟩ = false := by
  have ho := h.d.cs i hi
  obtain ⟨ga, c, e, h1, h2⟩ := ho.form (by show 0 < (cacheOf D i).length; omega)
  have hb : (f i).ownBlock = some ga := by rw [e]; rfl
  have hne : b ≠ ga := own_blk ho h.a (by decide) hb
  have hx := celV_at (cacheOf D i) hk
  have ho2 := ho
  rw [e] at ho2
  refine ⟨ga, c, e, h1, h2, hne, fun gc hgc e2 => ?_, fun gs hgs e2 => ?_, ?_, ?_, ho2.frozenAt _, ho2.frozenAt _⟩
  · subst e2
    rcases own_apart h.d.c ho (by decide) hb with h3 | h3
    · rw [hgc] at h3; cases h3
    · exact h3 hgc
  · subst e2
    rcases own_apart h.d.s ho (by decide) hb with h3 | h3
    · rw [hgs] at h3; cases h3
    · exact h3 hgs
  · rw [ho2.cellAt _ (by show k * 2 < (cacheOf D i).length * 2; omega)]
    exact hx.1
  · rw [ho2.cellAt _ (by show k * 2 + 1 < (cacheOf D i).length * 2; omega)]
    exact hx.2
end
theorem placeI_some {l : List Cel} {s : Int} {k : Nat} (h : placeO l s = some k) : placeI l s = (k : Int) := by unfold placeI; rw [h]
theorem placeI_none {l : List Cel} {s : Int} (h : placeO l s = none) : placeI l s = -1 := by unfold placeI; rw [h]
theorem getD_some {l : List Cel} {k : Nat} (h : k < l.length) (c : Cel) : l.getD k c = l[k] := by rw [List.getD, List.getElem?_eq_getElem h]; rfl

set_option maxRecDepth 100000 in
set_option maxHeartbeats 2000000 in
theorem read_any (B b : Nat) (D : Dev) (i s : Nat) (w : World) (h : ActorAt w B b D (i : Int)) (hi : i < D.C.length) (hs : s < D.S.length) :
    Calls Try.prog 53 #[.pointer (some ⟨b, 0, none⟩), .int .i64 (s : Int)] w fun e w' => e = .returned (.string (readD D i (s : Int))) ∧ Below w.heap.size w w' := by
  have hc := actPlace_any B b D i (s : Int) w h hi
  cases hp : placeO (cacheOf D i) (s : Int) with
  | some k =>
    obtain ⟨hk, -⟩ := place_some hp
    rw [placeI_some hp] at hc
    have HR : Hid (readD D i (s : Int) = ((cacheOf D i)[k]).2) := by show readD D i (s : Int) = _; unfold readD; rw [hp]; simp only; rw [getD_some hk]
    have H := Lib.hid h
    clear h hp
    go_enter Try.func53, Try.ntmps53
    go_wp2_with fail
    refine hc.mono ?_
    rintro e w1 ⟨rfl, hb1⟩
    obtain ⟨vS, vC, vK, vF, f, h1⟩ := H.out.up hb1
    have hbx := h1.box
    obtain ⟨gc, cap, a, c, rfl, hgl, hcc, hff, hfi, hcm, hlc, hla⟩ := act_cache h1 hi
    obtain ⟨ga, c', e2, -, -, -, -, -, -, hd, -, -⟩ := act_cell h1 hi hk
    obtain ⟨rfl, rfl⟩ : a = some ⟨ga, 0, none⟩ ∧ c = c' := by rw [hfi] at e2; injection e2 with e1 _ e2; exact ⟨e1, e2⟩
    have c1 := hbx.c1
    have c5 := hbx.c5
    have i0 : (0 : Int) ≤ (i : Int) := by omega
    have i1 : (i : Int) < (D.C.length : Int) := by omega
    have k0 : (0 : Int) ≤ (k : Int) := by omega
    have k1 : (k : Int) < ((cacheOf D i).length : Int) := by omega
    generalize ((cacheOf D i)[k]).2 = t at *
    generalize D.C.length = nC at *
    generalize (cacheOf D i).length = nl at *
    clear h1 hbx hla hfi e2 hc H
    go_wp2_with fail
    go_region_held3 (fun w' => w'.cell? ⟨b, 1, none⟩ = some (.slice (some ⟨gc, 0, none⟩) nC cap) ∧ w'.cell? ⟨b, 5, none⟩ = some (.int .i64 (i : Int)) ∧ w'.cell? ⟨gc, i, none⟩ = some (.slice (some ⟨ga, 0, none⟩) nl c) ∧ w'.cell? ⟨ga, k * 2 + 1, none⟩ = some (.string t)) (go_keep) (fail)
    go_wp2_with fail
    go_ret
    exact ⟨by rw [HR.out]; rfl, hb1.drew⟩
  | none =>
    rw [placeI_none hp] at hc
    have HR : Hid (readD D i (s : Int) = D.S[s]) := by
      show readD D i (s : Int) = _
      unfold readD
      rw [hp]
      simp only [Int.toNat_natCast]
      rw [List.getD, List.getElem?_eq_getElem hs]
      rfl
    have H := Lib.hid h
    clear h hp
    go_enter Try.func53, Try.ntmps53
    go_wp2_with fail
    refine hc.mono ?_
    rintro e w1 ⟨rfl, hb1⟩
    obtain ⟨vS, vC, vK, vF, f, h1⟩ := H.out.up hb1
    have hbx := h1.box
    obtain ⟨gs, cap, rfl, -, -, -, hd, -⟩ := act_sector h1 hs
    have c0 := hbx.c0
    have s0 : (0 : Int) ≤ (s : Int) := by omega
    have s1 : (s : Int) < (D.S.length : Int) := by omega
    generalize D.S[s] = t at *
    generalize D.S.length = nS at *
    clear h1 hbx hc H
    go_wp2_with fail
    go_ret
    exact ⟨by rw [HR.out]; rfl, hb1⟩

theorem end_tup : Ending.returned (.tuple #[]) = .returned (.tuple #[]) := rfl
theorem set_same {l : List (List Cel)} {i : Nat} (h : i < l.length) : l.set i (l.getD i []) = l := by
  rw [List.getD, List.getElem?_eq_getElem h]
  exact List.set_getElem_self h

set_option maxRecDepth 100000 in
set_option maxHeartbeats 2000000 in
theorem force_any (B b : Nat) (D : Dev) (i s : Nat) (t : ByteArray) (w : World) (h : ActorAt w B b D (i : Int)) (hi : i < D.C.length) (hs : s < D.S.length) (hS : Small D 1099511627776) (hB : B ≤ w.heap.size) :
    Calls Try.prog 54 #[.pointer (some ⟨b, 0, none⟩), .int .i64 (s : Int), .string t] w fun e w' => e = .returned (.tuple #[]) ∧ ActorAt w' B b (forceD D i (s : Int) t) (i : Int) ∧ Below B w w' := by
  obtain ⟨vS, vC, vK, vF, f, h⟩ := h
  have hbx := h.box
  obtain ⟨gs, cap, rfl, hgB, hgl, hne, hd, hz⟩ := act_sector h hs
  have c0 := hbx.c0
  obtain ⟨W, hW⟩ : ∃ W, W = w.setCell ⟨gs, s, none⟩ (.string t) := ⟨_, rfl⟩
  have HA := Lib.hid (show ActorAt W B b { D with S := D.S.set s t } (i : Int) from ⟨_, _, _, _, _, hW ▸ h.setS rfl s t⟩)
  have hb : Below B w W := hW ▸ (Below.refl B w).setCell (by simpa using hgB) _
  have hc := actPlace_any B b { D with S := D.S.set s t } i (s : Int) W HA.out hi
  have hcc : cacheOf { D with S := D.S.set s t } i = cacheOf D i := rfl
  rw [hcc] at hc
  have s0 : (0 : Int) ≤ (s : Int) := by omega
  have s1 : (s : Int) < (D.S.length : Int) := by omega
  clear hbx h
  cases hp : placeO (cacheOf D i) (s : Int) with
  | some k =>
    obtain ⟨hk, _⟩ := place_some hp
    rw [placeI_some hp] at hc
    have HF : Hid (forceD D i (s : Int) t = { D with S := D.S.set s t, C := D.C.set i ((cacheOf D i).eraseIdx k) }) := by
      show forceD D i (s : Int) t = _
      unfold forceD forceC
      rw [hp, Int.toNat_natCast]
    have HS : Hid (Small { D with S := D.S.set s t } 1099511627776) := ⟨by simpa using hS.s, hS.f, hS.k, hS.c, hS.cs⟩
    clear hp hcc
    go_enter Try.func54, Try.ntmps54
    go_wp2_with fail
    rw [← hW]
    clear hW
    refine hc.mono ?_
    rintro e w1 ⟨rfl, hb1⟩
    have hdr := drop_any B b { D with S := D.S.set s t } i k w1 (HA.out.up hb1) hi hk HS.out
    clear hc HA
    go_wp2_with fail
    refine hdr.mono ?_
    rintro e w2 ⟨rfl, hA2, hb2⟩
    have HA2 := Lib.hid hA2
    clear hA2 hdr
    go_wp2_with fail
    go_end0
    refine ⟨rfl, ?_, hb.trans ((hb1.mono (Nat.le_trans hB hb.size)).trans hb2)⟩
    rw [HF.out]
    exact HA2.out
  | none =>
    rw [placeI_none hp] at hc
    have HF : Hid (forceD D i (s : Int) t = { D with S := D.S.set s t }) := by
      show forceD D i (s : Int) t = _
      unfold forceD forceC
      rw [hp, Int.toNat_natCast]
      simp only
      show ({ D with S := D.S.set s t, C := D.C.set i (D.C.getD i []) } : Dev) = _
      rw [set_same hi]
    clear hp hcc
    go_enter Try.func54, Try.ntmps54
    go_wp2_with fail
    rw [← hW]
    clear hW
    refine hc.mono ?_
    rintro e w1 ⟨rfl, hb1⟩
    clear hc
    go_wp2_with fail
    go_end0
    refine ⟨rfl, ?_, hb.trans (hb1.mono (Nat.le_trans hB hb.size))⟩
    rw [HF.out]
    exact HA.out.up hb1

end Go.Proofs.Yteighdlhonegpaa
