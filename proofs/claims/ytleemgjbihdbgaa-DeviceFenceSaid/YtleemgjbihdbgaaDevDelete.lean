/-
  A cell taken out of a cache of the call's own: by contract.
-/
import Derived.Test.YtleemgjbihdbgaaDevClone
import Derived.Deep.RegionLaw
import Derived.Laws.IdiomCopy
namespace Go.Proofs.Ytleemgjbihdbgaa
open Go.RowKit
set_option linter.unusedVariables false
set_option linter.unusedSimpArgs false

theorem blk_setCells : ∀ (vs : List Value) (o : Nat) {w : World} {b : Nat} {cs : Array Value} {T : TypeId}, Blk w b cs T → ∃ cs', Blk (w.setCells b o vs) b cs' T ∧ cs'.size = cs.size
  | [], _, _, _, cs, _, h => ⟨cs, h, rfl⟩
  | v :: vs, o, _, _, _, _, h => by
    obtain ⟨cs', h1, h2⟩ := blk_setCells vs (o + 1) (h.set o v)
    exact ⟨cs', h1, by rw [h2]; simp⟩
theorem grown_setCells : ∀ (vs : List Value) (o : Nat) {w w' : World} {b : Nat}, w.grownBy w' (some b) → w.grownBy (w'.setCells b o vs) (some b)
  | [], _, _, _, _, h => h
  | v :: vs, o, w, w', b, h => grown_setCells vs (o + 1) (w := w) (w' := w'.setCell ⟨b, o, none⟩ v) ⟨h.os, h.tape, h.output, by simpa [World.setCell] using h.size, fun k hk hne => (Below.heap_setCell w' ⟨b, o, none⟩ v k (by rintro rfl; exact hne rfl)).trans (h.block k hk hne)⟩
theorem own_cells {w : World} {B g m cap size : Nat} {T : TypeId} {cs : Array Value} {xs : List Value} (hb : Blk w g cs T) (hsz : cs.size = cap * size) (hm : m ≤ cap) (hcm : cap ≤ maxLen) (hx : xs.length = m * size) (hB : B ≤ g) (hc : ∀ j u, xs[j]? = some u → w.cell? ⟨g, j, none⟩ = some u) :
    w.ownsRow B T size (.slice (some ⟨g, 0, none⟩) m cap) m xs := by
  refine ⟨hx, .inr ⟨g, cap, cs, rfl, hB, hb, hm, hcm, hsz, ?_⟩⟩
  have hle : m * size ≤ cs.size := by rw [hsz]; exact Nat.mul_le_mul_right _ hm
  apply List.ext_getElem?
  intro j
  rw [List.getElem?_take]
  by_cases hj : j < m * size
  · rw [if_pos hj]
    have hjx : j < xs.length := by omega
    have h1 := hc j _ (List.getElem?_eq_getElem hjx)
    have h2 := hb.cell j (cs[j]'(by omega)) (Array.getElem?_eq_getElem (by omega))
    rw [h1] at h2
    rw [List.getElem?_eq_getElem hjx, Array.getElem?_toList, Array.getElem?_eq_getElem (by omega)]
    exact h2.symm
  · rw [if_neg hj, List.getElem?_eq_none (by omega)]
theorem erase_cells (l : List Cel) (k : Nat) (hk : k < l.length) {j : Nat} {u : Value} (h : (celV (l.eraseIdx k))[j]? = some u) :
    (j < k * 2 ∧ (celV l)[j]? = some u) ∨ (k * 2 ≤ j ∧ (celV (l.drop (k + 1)))[j - k * 2]? = some u) := by
  rw [List.eraseIdx_eq_take_drop_succ, celV_append, List.getElem?_append] at h
  have hl : (celV (l.take k)).length = k * 2 := by rw [celV_length, List.length_take, Nat.min_eq_left (by omega)]
  rw [hl] at h
  split at h
  · rename_i hj
    left
    rw [← celV_take, List.getElem?_take, if_pos hj] at h
    exact ⟨hj, h⟩
  · rename_i hj
    exact .inr ⟨by omega, h⟩

theorem run_clear_cell {P : Program} (w : World) (t e ty : TypeId) (z z0 z1 : Value) (ht : P.underlying t = some (.slice e)) (hv : ∀ w, (zeroValue e).run P w = .ok z w) (hz : z.cells = #[z0, z1]) (h0 : z0.oneCell' = true) (h1 : z1.oneCell' = true) (b o c : Nat)
    (hc : ∀ j, j < 2 → (w.cell? ⟨b, o + j, none⟩).isSome = true) (hf : ∀ j, j < 2 → w.frozen? ⟨b, o + j, none⟩ = false) :
    (Builtin.clear_ #[t] ty #[.slice (some ⟨b, o, none⟩) 1 c]).run P w = .ok (.tuple #[]) (w.setCells b o [z0, z1]) := by
  have hzc : (Builtin.zeroCells z.cells 1).toList = [z0, z1] := by
    rw [hz]
    simp [Builtin.zeroCells]
    apply List.ext_getElem
    · simp
    · intro i h1 h2
      match i, h2 with
      | 0, _ => simp
      | 1, _ => simp
  have hst := run_storeCells_cells (P := P) b o [z0, z1] 0 w (by simpa using hc) (by simpa using hf) (by intro v hv'; simp at hv'; rcases hv' with rfl | rfl <;> assumption)
  simp only [Nat.add_zero] at hst
  simp [Builtin.clear_, run_underlying ht, hv, hzc, hst]

theorem zeroCell : ∀ w, (zeroValue 59).run Try.prog w = .ok (.agg #[.int .i64 0, .string ⟨#[]⟩]) w := Try.zeroValue59

set_option maxHeartbeats 4000000 in
set_option maxRecDepth 1000000 in
theorem delete_any (B gi n cap k j : Nat) (l : List Cel) (w : World) (hown : w.ownsRow B 59 2 (.slice (some ⟨gi, 0, none⟩) n cap) n (celV l)) (hl : l.length = n) (hj : j = k + 1) (hk : k < n) (hn : n ≤ 1099511627776) :
    Calls Try.prog 79 #[.slice (some ⟨gi, 0, none⟩) n cap, .int .i64 (k : Int), .int .i64 (j : Int)] w fun e w' =>
      e = .returned (.slice (some ⟨gi, 0, none⟩) (n - 1) cap) ∧ w'.ownsRow B 59 2 (.slice (some ⟨gi, 0, none⟩) (n - 1) cap) (n - 1) (celV (l.eraseIdx k)) ∧ w.grownBy w' (some gi) := by
  obtain ⟨i0, hi, hz0, hz1, hz2⟩ := info_parts infoCell
  have hJ := Lib.hid hj
  have hkj : k < j := by omega
  have hjn : j ≤ n := by omega
  obtain ⟨cs, hblk, hB, hnc, hcm, hsz⟩ : ∃ cs, Blk w gi cs 59 ∧ B ≤ gi ∧ n ≤ cap ∧ cap ≤ maxLen ∧ cs.size = cap * 2 := by
    rcases hown.2 with ⟨h', _⟩ | ⟨g', cap', cur, h', h1, h2, h3, h4, h5, _⟩
    · simp at h'
    · simp only [Value.slice.injEq, Option.some.injEq, Addr.mk.injEq, and_true, true_and] at h'
      obtain ⟨rfl, rfl⟩ := h'
      exact ⟨cur, h2, h1, h3, h4, h5⟩
  unfold maxLen at hcm
  have hcell : ∀ j, j < n * 2 → w.cell? ⟨gi, j, none⟩ = (celV l)[j]? := fun j hj => hown.cellAt j hj
  obtain ⟨news, hnews⟩ : ∃ news, news = celV (l.drop j) := ⟨_, rfl⟩
  have hlen : news.length = (n - j) * 2 := by rw [hnews, celV_length, List.length_drop, hl]
  have hget : ∀ t u, news[t]? = some u → w.cell? ⟨gi, j * 2 + t, none⟩ = some u := by
    intro t u hu
    have ht : t < news.length := (List.getElem?_eq_some_iff.1 hu).1
    rw [hcell _ (by omega), ← hu, hnews, ← celV_drop, List.getElem?_drop]
  obtain ⟨A, hA, hsrc⟩ : ∃ A : Addr, (if cap = j then some (⟨gi, 0, none⟩ : Addr) else some ⟨gi, j * 2, none⟩) = some A ∧ Hid (∀ t u, news[t]? = some u → w.drew.cell? (A.add t) = some u) := by
    by_cases h : cap = j
    · refine ⟨⟨gi, 0, none⟩, by simp [h], fun t u hu => ?_⟩
      have h0 : news.length = 0 := by rw [hlen]; omega
      rw [List.length_eq_zero_iff.1 h0] at hu
      simp at hu
    · refine ⟨⟨gi, j * 2, none⟩, by simp [h], fun t u hu => ?_⟩
      rw [Addr.add_lit]
      exact hget t u hu
  have s1 : Hid (news.length = (n - j) * 2) := hlen
  have s2 : Hid (∀ u ∈ news, u.oneCell' = true) := by rw [hnews]; exact celV_one _
  have hthere : ∀ j, j < cap * 2 → (w.cell? ⟨gi, j, none⟩).isSome = true ∧ w.frozen? ⟨gi, j, none⟩ = false := fun j hj => ⟨by rw [hblk.cell j (cs[j]'(by omega)) (Array.getElem?_eq_getElem (by omega))]; rfl, hblk.free j⟩
  have s3 : Hid (∀ t, t < news.length → (w.drew.cell? ⟨gi, 0 + k * 2 + t, none⟩).isSome = true ∧ w.drew.frozen? ⟨gi, 0 + k * 2 + t, none⟩ = false) := by
    intro t ht
    exact hthere _ (by omega)
  obtain ⟨W1, hW1⟩ : ∃ W1, W1 = w.drew.setCells gi (0 + k * 2) news := ⟨_, rfl⟩
  obtain ⟨cs1, hblk1, hsz1⟩ : ∃ cs', Blk W1 gi cs' 59 ∧ cs'.size = cs.size := by rw [hW1]; exact blk_setCells _ _ (w := w.drew) hblk
  have hthere1 : ∀ j, j < cap * 2 → (W1.cell? ⟨gi, j, none⟩).isSome = true ∧ W1.frozen? ⟨gi, j, none⟩ = false := fun j hj => ⟨by rw [hblk1.cell j (cs1[j]'(by omega)) (Array.getElem?_eq_getElem (by omega))]; rfl, hblk1.free j⟩
  have hcl : ∀ ty, (Builtin.clear_ #[57] ty #[.slice (some ⟨gi, (k + (n - j)) * 2, none⟩) (n - (k + (n - j))) (cap - (k + (n - j)))]).run Try.prog W1 = .ok (.tuple #[]) (W1.setCells gi ((k + (n - j)) * 2) [.int .i64 0, .string ⟨#[]⟩]) :=
    fun ty => by
      rw [show n - (k + (n - j)) = 1 by omega]
      exact run_clear_cell W1 _ _ ty _ _ _ Try.underlying57 zeroCell rfl rfl rfl gi _ _ (fun q hq => (hthere1 _ (by omega)).1) (fun q hq => (hthere1 _ (by omega)).2)
  have hW : Hid (W1 = w.drew.setCells gi (0 + k * 2) news) := hW1
  have hFIN : Hid ((W1.setCells gi ((k + (n - j)) * 2) [.int .i64 0, .string ⟨#[]⟩]).ownsRow B 59 2 (.slice (some ⟨gi, 0, none⟩) (n - 1) cap) (n - 1) (celV (l.eraseIdx k)) ∧ w.grownBy (W1.setCells gi ((k + (n - j)) * 2) [.int .i64 0, .string ⟨#[]⟩]) (some gi)) := by
    obtain ⟨cs2, hblk2, hsz2⟩ := blk_setCells [.int .i64 0, .string ⟨#[]⟩] ((k + (n - j)) * 2) hblk1
    refine ⟨own_cells hblk2 (by omega) (by omega) (by unfold maxLen; omega) (by rw [celV_length, List.length_eraseIdx, if_pos (by omega), hl]) hB ?_, ?_⟩
    · intro q u hu
      have hq : q < (n - 1) * 2 := by
        have := (List.getElem?_eq_some_iff.1 hu).1
        rw [celV_length, List.length_eraseIdx, if_pos (by omega), hl] at this
        exact this
      rw [World.cell?_setCells_out gi _ _ _ ⟨gi, q, none⟩ (fun _ _ => by simp; omega), hW1]
      rcases erase_cells l k (by omega) hu with ⟨h1, h2⟩ | ⟨h1, h2⟩
      · rw [World.cell?_setCells_out gi _ _ _ ⟨gi, q, none⟩ (fun _ _ => by simp; omega)]
        exact (hcell q (by omega)).trans h2
      · rw [← hj, ← hnews] at h2
        have h3 : q - k * 2 < news.length := (List.getElem?_eq_some_iff.1 h2).1
        have h4 := World.cell?_setCells_in gi news (0 + k * 2) w.drew (fun i hi => (s3.out i hi).1) (q - k * 2) h3
        rw [show 0 + k * 2 + (q - k * 2) = q by omega] at h4
        rw [h4, ← h2, List.getElem?_eq_getElem h3]
    · exact grown_setCells _ _ (by rw [hW1]; exact grown_setCells _ _ ⟨rfl, rfl, rfl, Nat.le_refl _, fun _ _ _ => rfl⟩)
  have hic : k ≤ cap := by omega
  have hjc : j ≤ cap := by omega
  clear hj hW1 hget hcell hthere hthere1 hblk hblk1 hown
  go_enter Try.func79, Try.ntmps79
  go_wp2_with fail
  go_region_law (refine step_append_room rfl (.tmp 22) (.tmp 25) 57 rfl 59 i0 2 Try.underlying57 hi hz1 gi 0 k cap (by simp [Act.eval, Act.put]) A (n - j) (cap - j) news (by simp [Act.eval, Act.put]) s1.out hsrc.out s2.out (by omega) s3.out ?_; rw [← hW.out])
  go_wp2
  go_ret
  exact ⟨by rw [show n - 1 = k + (n - j) by have := hJ.out; omega]; rfl, hFIN.out.1, hFIN.out.2⟩

end Go.Proofs.Ytleemgjbihdbgaa
