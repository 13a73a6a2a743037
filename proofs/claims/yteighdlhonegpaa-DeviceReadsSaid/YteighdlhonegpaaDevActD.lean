/-
  The program's actor: where its cache has a sector; what it reads: by contract.
-/
import Derived.Test.YteighdlhonegpaaDevActB
namespace Go.Proofs.Yteighdlhonegpaa
open Go.RowKit
set_option linter.unusedVariables false
set_option linter.unusedSimpArgs false

theorem place1_any (x : Int) (t : ByteArray) (q : Nat) (s : Int) (w : World) (hq : w.cell? ⟨q, 0, none⟩ = some (.int .i64 s)) :
    Calls Try.prog 78 #[.agg #[.int .i64 x, .string t], .pointer (some ⟨q, 0, none⟩)] w fun e w' => e = .returned (.bool (x == s)) ∧ Below w.heap.size w w' := by
  have h2 : (w.alloc (.cells #[.int .i64 x, .string t] 59)).cell? ⟨q, 0, none⟩ = some (.int .i64 s) := Lib.cell?_alloc_some _ hq
  have hb := below_alloc w (.cells #[.int .i64 x, .string t] 59)
  go_enter Try.func78, Try.ntmps78
  go_wp2_with fail
  go_ret
  exact ⟨rfl, hb⟩

set_option maxRecDepth 100000 in
set_option maxHeartbeats 1000000 in
theorem idxCell_any (A : Option Addr) (n c B : Nat) (l : List Cel) (q : Nat) (s : Int) (w : World) (hA : Lies w B A (n * 2) (celV l)) (hB : B ≤ w.heap.size) (hl : l.length = n) (hn : n ≤ maxLen) (hq : w.cell? ⟨q, 0, none⟩ = some (.int .i64 s)) (hql : q < w.heap.size) :
    Calls Try.prog 77 #[.slice A n c, .func (.func 78) #[] #[.pointer (some ⟨q, 0, none⟩)]] w fun e w' => e = .returned (.int .i64 (placeI l s)) ∧ Below w.heap.size w w' := by
  unfold maxLen at hn
  have HQ := Lib.hid hq
  clear hq
  go_enter Try.func77, Try.ntmps77
  go_wp2_with fail
  go_loopw [5, 8] (fun _ i wr => ∃ k : Nat, k ≤ n ∧ i = .int .i64 (k : Int) ∧ Below w.heap.size w wr ∧ Hid (∀ j : Nat, j < k → ∀ h : j < l.length, (l[j]).1 ≠ s)) (fun _ i _ => n - (intOf i).toNat)
  case atStart => exact ⟨0, Nat.zero_le _, rfl, Below.refl _ _, fun j hj => by omega⟩
  case round =>
    obtain ⟨k, hk, rfl, hbr, HP⟩ := hrel
    by_cases hlt : k < n
    · obtain ⟨ad, e1, hb, h1, h2⟩ := cel_at (hA.keep fun p hp => hbr.cell (by omega)) hl hlt
      subst e1
      have h3 := h2
      rw [← add_twice, add_one] at h3
      obtain ⟨x, hx⟩ : ∃ x, l[k]'(by omega) = x := ⟨_, rfl⟩
      rw [hx] at h1 h2 h3
      have hcall := place1_any x.1 x.2 q s wr ((hbr.cell (p := ⟨q, 0, none⟩) hql).trans HQ.out)
      cases hs : x.1 == s with
      | true =>
        rw [hs] at hcall
        have HF := Lib.hid (place_found (l := l) (s := s) (k := k) (by omega) (by rw [hx]; exact hs) HP.out)
        clear hx
        go_wp2_with fail
        refine hcall.mono ?_
        rintro e w' ⟨rfl, hb2⟩
        go_wp2_with fail
        go_ret
        exact ⟨by rw [HF.out]; rfl, below_then hbr hb2⟩
      | false =>
        rw [hs] at hcall
        have HP' : Hid (∀ j : Nat, j < k + 1 → ∀ h : j < l.length, (l[j]).1 ≠ s) := fun j hj h => by
          by_cases e : j = k
          · subst e; rw [hx]; simpa using hs
          · exact HP.out j (by omega) h
        clear HP hx
        go_wp2_with fail
        refine hcall.mono ?_
        rintro e w' ⟨rfl, hb2⟩
        go_wp2_with fail
        go_roundw
        case rel => exact ⟨k + 1, by omega, by go_num, below_then hbr hb2, HP'⟩
        case measure => simp [intOf]; omega
    · have hkn : k = n := by omega
      have HF := Lib.hid (place_missed (l := l) (s := s) (fun j hj h => HP.out j (by omega) h))
      go_wp2_with fail
      go_ret
      exact ⟨by rw [HF.out]; rfl, hbr⟩

/-- What is needed of an actor's own cache. -/
theorem act_cache {w : World} {B b : Nat} {vS vC vK vF : Value} {f : Nat → Value} {D : Dev} {node : Int} (h : ActAt w B b vS vC vK vF f D node) {i : Nat} (hi : i < D.C.length) :
    ∃ gc cap a c, vC = .slice (some ⟨gc, 0, none⟩) D.C.length cap ∧ gc < w.heap.size ∧ w.cell? ⟨gc, i, none⟩ = some (.slice a (cacheOf D i).length c) ∧ w.frozen? ⟨gc, i, none⟩ = false ∧ f i = .slice a (cacheOf D i).length c ∧ c ≤ maxLen ∧ (cacheOf D i).length ≤ c ∧ Lies w w.heap.size a ((cacheOf D i).length * 2) (celV (cacheOf D i)) := by
  obtain ⟨gc, cap, e, _, h2⟩ := h.d.c.form (by omega)
  obtain ⟨a, c, e2, h3, h4⟩ := own_shape2 (h.d.cs i hi)
  have hc := h.d.c
  have hcs := h.d.cs i hi
  rw [e] at hc
  rw [e2] at hcs
  refine ⟨gc, cap, a, c, e, h2, ?_, hc.frozenAt i, e2, h4, h3, lies_own2 hcs⟩
  rw [hc.cellAt i (by omega), List.getElem?_map, List.getElem?_range hi]
  show some (f i) = _
  rw [e2]
  rfl

set_option maxRecDepth 100000 in
set_option maxHeartbeats 2000000 in
theorem actPlace_any (B b : Nat) (D : Dev) (i : Nat) (s : Int) (w : World) (h : ActorAt w B b D (i : Int)) (hi : i < D.C.length) :
    Calls Try.prog 69 #[.pointer (some ⟨b, 0, none⟩), .int .i64 s] w fun e w' => e = .returned (.int .i64 (placeI (cacheOf D i) s)) ∧ Below w.heap.size w w' := by
  obtain ⟨vS, vC, vK, vF, f, h⟩ := h
  obtain ⟨W0, hW⟩ : ∃ W0, W0 = w.alloc (.cells #[.int .i64 s] 3) := ⟨_, rfl⟩
  have hb0 : Below w.heap.size w W0 := hW ▸ below_alloc w _
  have p0 : Blk W0 w.heap.size #[.int .i64 s] 3 := hW ▸ Blk.new w _ _
  have h0 := h.up hb0
  have hlt := h0.a.lt
  have hbx := h0.box
  obtain ⟨gc, cap, a, c, rfl, hgl, hcc, _, _, hcm, _, hla⟩ := act_cache h0 hi
  have hc := (idxCell_any a (cacheOf D i).length c W0.heap.size (cacheOf D i) w.heap.size s W0.drew hla (Nat.le_refl _) rfl (by omega) (p0.cell 0 _ rfl) p0.lt).mono (R' := fun e w' => e = .returned (.int .i64 (placeI (cacheOf D i) s)) ∧ w'.cell? ⟨b, 1, none⟩ = some (.slice (some ⟨gc, 0, none⟩) D.C.length cap) ∧ w'.cell? ⟨b, 5, none⟩ = some (.int .i64 (i : Int)) ∧ w'.cell? ⟨gc, i, none⟩ = some (.slice a (cacheOf D i).length c) ∧ Below w.heap.size w w') (by
    rintro e w' ⟨rfl, hb⟩
    have hb' : Below W0.heap.size W0 w' := ((Below.refl W0.heap.size W0).drew).trans hb
    exact ⟨rfl, (hbx.below hb' hlt).c1, (hbx.below hb' hlt).c5, (hb'.cell (p := ⟨gc, i, none⟩) hgl).trans hcc, below_then hb0 hb'⟩)
  generalize cacheOf D i = l at *
  generalize placeI l s = r at *
  have c1 := hbx.c1
  have c5 := hbx.c5
  have i0 : (0 : Int) ≤ (i : Int) := by omega
  have i1 : (i : Int) < (D.C.length : Int) := by omega
  generalize D.C.length = nC at *
  clear h h0 hbx hla p0
  go_enter Try.func69, Try.ntmps69
  go_wp2_with fail
  rw [← hW]
  clear hW
  go_region_held3 (fun w' => w'.cell? ⟨b, 1, none⟩ = some (.slice (some ⟨gc, 0, none⟩) nC cap) ∧ w'.cell? ⟨b, 5, none⟩ = some (.int .i64 (i : Int)) ∧ w'.cell? ⟨gc, i, none⟩ = some (.slice a l.length c)) (go_keep)
    (first | (go_at_call 77; refine hc.mono ?_; rintro e w1 ⟨rfl, k0, k1, k2, hb1⟩))
  go_wp2_with fail
  go_ret
  exact ⟨rfl, hb1⟩

end Go.Proofs.Yteighdlhonegpaa
