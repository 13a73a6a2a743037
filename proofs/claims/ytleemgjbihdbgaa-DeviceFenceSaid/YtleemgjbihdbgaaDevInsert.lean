/-
  A number put into a row of the call's own, and searched for in one: by contract, from the laid contracts of the library's functions.
-/
import Derived.Test.YtleemgjbihdbgaaShelf
import Derived.Test.YtleemgjbihdbgaaDevDelete
import Derived.Test.YtleemgjbihdbgaaDevMath
namespace Go.Proofs.Ytleemgjbihdbgaa
open Go.RowKit
set_option linter.unusedVariables false
set_option linter.unusedSimpArgs false

/-! ### Keys that rise -/
theorem fenceGo_done (key : Int) (l : List Int) : fenceGo key l true = l := by
  induction l with
  | nil => rfl
  | cons x xs ih => rw [fenceGo]; simp [ih]
theorem fence_there {l : List Int} {key : Int} (h : l.Pairwise (· < ·)) (hk : key ∈ l) : fenceD l key = l := by
  unfold fenceD
  induction l with
  | nil => cases hk
  | cons x xs ih =>
    rw [List.pairwise_cons] at h
    rw [fenceGo]
    rcases List.mem_cons.1 hk with rfl | h2
    · rw [if_neg (by simp)]
      simp [fenceGo_done]
    · have hlt := h.1 key h2
      have hd : decide (key < x) = false := decide_eq_false (by omega)
      have hb : (x == key) = false := by simpa using (by omega : ¬ x = key)
      rw [if_neg (by simp [hd]), hb]
      simp [ih h.2 h2]
theorem fence_new {l : List Int} {key : Int} (h : l.Pairwise (· < ·)) (hk : key ∉ l) : fenceD l key = l.take (l.countP (· < key)) ++ key :: l.drop (l.countP (· < key)) := by
  unfold fenceD
  induction l with
  | nil => simp [fenceGo]
  | cons x xs ih =>
    rw [List.pairwise_cons] at h
    have hne : x ≠ key := fun e => hk (by simp [e])
    have hb : (x == key) = false := by simpa using hne
    rw [fenceGo]
    by_cases hlt : key < x
    · have hz : (x :: xs).countP (· < key) = 0 := by
        rw [List.countP_eq_zero]
        intro y hy
        rcases List.mem_cons.1 hy with rfl | hy
        · simp; omega
        · have := h.1 y hy; simp; omega
      rw [hz, if_pos (by simp [hlt, hb]), fenceGo_done]
      rfl
    · have hlx : x < key := by omega
      rw [if_neg (by simp [hlt]), hb, List.countP_cons, if_pos (by simpa using hlx)]
      simp only [List.take_succ_cons, List.drop_succ_cons, List.cons_append]
      rw [show (false || false) = false from rfl, ih h.2 (fun h2 => hk (by simp [h2]))]

set_option maxRecDepth 100000 in
set_option maxHeartbeats 1000000 in
theorem searchNil_any (x : Int) (w : World) :
    Calls Try.prog 71 #[.slice none 0 0, .int .i64 x] w fun e w' => e = .returned (.tuple #[.int .i64 0, .bool false]) ∧ ∃ q, w' = w.drewN q := by
  go_enter Try.func71, Try.ntmps71
  go_wp2_with fail
  go_loopw [7, 8] (fun a b wr => a = .int .i64 0 ∧ b = .int .i64 0 ∧ wr = w) (fun _ _ _ => 0)
  case atStart => exact ⟨rfl, rfl, rfl⟩
  case round =>
    obtain ⟨rfl, rfl, rfl⟩ := hrel
    go_wp2_with fail
    go_ret2
    exact ⟨rfl, 0, rfl⟩
theorem ints_getD {l : List Int} {j : Nat} (h : j < l.length) : (l.map (Value.int .i64))[j]? = some (.int .i64 (l.getD j 0)) := by
  rw [List.getElem?_map, List.getElem?_eq_getElem h, List.getD, List.getElem?_eq_getElem h]
  rfl
/-- Searched for in a row of the call's own that rises. -/
theorem search_any (B n : Nat) (v : Value) (l : List Int) (x : Int) (w : World) (hown : w.ownsRow B 3 1 v n (l.map (Value.int .i64))) (hn : n ≤ 1099511627776) (hs : l.Pairwise (· < ·)) :
    Calls Try.prog 71 #[v, .int .i64 x] w fun e w' => e = .returned (.tuple #[.int .i64 ((l.countP (· < x) : Nat) : Int), .bool (l.contains x)]) ∧ ∃ q, w' = w.drewN q := by
  have hl : l.length = n := by have := hown.1; simpa using this
  rcases hown.2 with ⟨rfl, rfl⟩ | ⟨g, cap, cur, rfl, _, _, _, _, _, _⟩
  · obtain rfl : l = [] := List.eq_nil_of_length_eq_zero hl
    exact searchNil_any x w
  · have h := Any.slices_BinarySearch_int Try.lays25 g 0 n cap l x w (by omega) (by omega) (fun j hj => by rw [Nat.zero_add, hown.cellAt j (by omega), ints_getD hj]) (by rw [List.take_of_length_le (by omega)]; exact hs.imp fun h => by omega)
    rw [List.take_of_length_le (by omega)] at h
    exact h

theorem own_insert {w : World} {B g n c i : Nat} {xs : List Value} (hown : w.ownsRow B 3 1 (.slice (some ⟨g, 0, none⟩) n c) n xs) (hi : i ≤ n) (hr : n + 1 ≤ c) (hB : B ≤ g) (u : Value) :
    ((w.setCells g (0 + (i + 1)) (xs.drop i)).setCells g (0 + i) [u]).ownsRow B 3 1 (.slice (some ⟨g, 0, none⟩) (n + 1) c) (n + 1) (xs.take i ++ u :: xs.drop i) ∧ w.grownBy ((w.setCells g (0 + (i + 1)) (xs.drop i)).setCells g (0 + i) [u]) (some g) := by
  obtain ⟨cs, hblk, hcm, hsz⟩ : ∃ cs, Blk w g cs 3 ∧ c ≤ maxLen ∧ cs.size = c * 1 := by
    rcases hown.2 with ⟨h', _⟩ | ⟨g', cap', cur, h', h1, h2, h3, h4, h5, _⟩
    · simp at h'
    · simp only [Value.slice.injEq, Option.some.injEq, Addr.mk.injEq, and_true, true_and] at h'
      obtain ⟨rfl, rfl⟩ := h'
      exact ⟨cur, h2, h4, h5⟩
  have hl : xs.length = n := by have := hown.1; omega
  have hdl : (xs.drop i).length = n - i := by rw [List.length_drop, hl]
  obtain ⟨cs1, hb1, hs1⟩ := blk_setCells (xs.drop i) (0 + (i + 1)) hblk
  obtain ⟨cs2, hb2, hs2⟩ := blk_setCells [u] (0 + i) hb1
  have hthere : ∀ j, j < c → (w.cell? ⟨g, j, none⟩).isSome = true := fun j hj => by rw [hblk.cell j (cs[j]'(by omega)) (Array.getElem?_eq_getElem (by omega))]; rfl
  have hthere1 : ∀ j, j < c → ((w.setCells g (0 + (i + 1)) (xs.drop i)).cell? ⟨g, j, none⟩).isSome = true := fun j hj => by rw [hb1.cell j (cs1[j]'(by omega)) (Array.getElem?_eq_getElem (by omega))]; rfl
  refine ⟨own_cells hb2 (by omega) hr hcm (by simp; omega) hB ?_, grown_setCells _ _ (grown_setCells _ _ ⟨rfl, rfl, rfl, Nat.le_refl _, fun _ _ _ => rfl⟩)⟩
  intro q z hz
  have hq : q < n + 1 := by
    have := (List.getElem?_eq_some_iff.1 hz).1
    simp at this
    omega
  rw [List.getElem?_append] at hz
  have htl : (xs.take i).length = i := by rw [List.length_take]; omega
  rw [htl] at hz
  by_cases h1 : q < i
  · rw [if_pos h1, List.getElem?_take, if_pos h1] at hz
    rw [World.cell?_setCells_out g _ _ _ ⟨g, q, none⟩ (fun _ _ => by simp; omega), World.cell?_setCells_out g _ _ _ ⟨g, q, none⟩ (fun _ _ => by simp; omega), hown.cellAt q (by omega)]
    exact hz
  · rw [if_neg h1] at hz
    by_cases h2 : q = i
    · subst h2
      rw [Nat.sub_self] at hz
      have h3 := World.cell?_setCells_in g [u] (0 + q) (w.setCells g (0 + (q + 1)) (xs.drop q)) (fun j hj => by
        have hj0 : j = 0 := by simp at hj; exact hj
        subst hj0
        rw [show 0 + q + 0 = q by omega]
        exact hthere1 q (by omega)) 0 (by simp)
      rw [show 0 + q + 0 = q by omega] at h3
      rw [h3]
      simpa using hz
    · rw [show q - i = (q - i - 1) + 1 by omega, List.getElem?_cons_succ] at hz
      have h4 : q - i - 1 < (xs.drop i).length := (List.getElem?_eq_some_iff.1 hz).1
      rw [World.cell?_setCells_out g _ _ _ ⟨g, q, none⟩ (fun _ _ => by simp; omega)]
      have h3 := World.cell?_setCells_in g (xs.drop i) (0 + (i + 1)) w (fun j hj => hthere _ (by omega)) (q - i - 1) h4
      rw [show 0 + (i + 1) + (q - i - 1) = q by omega] at h3
      rw [h3, ← hz, List.getElem?_eq_getElem h4]

set_option maxRecDepth 100000 in
set_option maxHeartbeats 1000000 in
/-- A number put into a row of the call's own, at a place. -/
theorem insert_any (B n i vb : Nat) (v : Value) (l : List Int) (x : Int) (w : World) (hown : w.ownsRow B 3 1 v n (l.map (Value.int .i64))) (hi : i ≤ n) (hn : n ≤ 1099511627776) (hB : B ≤ w.heap.size)
    (hx : Blk w vb #[.int .i64 x] 3) (hvb : v.ownBlock ≠ some vb) :
    Calls Try.prog 72 #[v, .int .i64 (i : Int), .slice (some ⟨vb, 0, none⟩) 1 1] w fun e w' => ∃ v', e = .returned v' ∧ w'.ownsRow B 3 1 v' (n + 1) ((l.take i ++ x :: l.drop i).map (Value.int .i64)) ∧
      w.grownBy w' v.ownBlock ∧ (v'.ownBlock = v.ownBlock ∨ ∀ b, v'.ownBlock = some b → w.heap.size ≤ b) := by
  have hl : l.length = n := by have := hown.1; simpa using this
  have hvs : ∀ j u, [Value.int .i64 x][j]? = some u → w.cell? ⟨vb, 0 + j, none⟩ = some u := fun j u hj => by rw [Nat.zero_add]; exact hx.cell j u (by simpa using hj)
  have h1v : ∀ u ∈ [Value.int .i64 x], u.oneCell' = true := by simp [Value.oneCell']
  have h1c : ∀ u ∈ l.map (Value.int .i64), u.oneCell' = true := fun u hu => by obtain ⟨z, _, rfl⟩ := List.mem_map.1 hu; rfl
  have hmap : (l.take i ++ x :: l.drop i).map (Value.int .i64) = (l.map (Value.int .i64)).take i ++ Value.int .i64 x :: (l.map (Value.int .i64)).drop i := by simp [List.map_take, List.map_drop]
  rw [hmap]
  have hnew : ∀ (arr : Array Value) (W : World), Below w.heap.size w W → ∀ (k : Option Nat), w.grownBy W k := by
    intro arr W hb k
    exact ⟨hb.os, hb.tape, hb.output, hb.size, fun j hj _ => hb.block j hj⟩
  rcases hown.2 with ⟨rfl, rfl⟩ | ⟨g, cap, cur, rfl, hBg, hblk, hnc, hcm, hsz, htk⟩
  · obtain rfl : l = [] := List.eq_nil_of_length_eq_zero hl
    obtain rfl : i = 0 := by omega
    refine (Any2.slices_Insert_int_end_grow Try.lays21 none 0 0 vb 0 1 1 [] [.int .i64 x] w (by omega) (by omega) (by omega) (by omega) rfl rfl (fun _ => rfl) (fun a h => by cases h) hvs h1v).mono ?_
    rintro e w' ⟨rfl, rfl⟩
    have hge := grownCap_ge w (0 + 1) 0 (Try.lays21_ren.t 3)
    have hle := grownCap_le_maxLen w (0 + 1) 0 (Try.lays21_ren.t 3) (by unfold maxLen; omega)
    generalize grownCap w (0 + 1) 0 (Try.lays21_ren.t 3) = G at *
    refine ⟨_, rfl, own_cells (Blk.new w.drew _ _) ?_ hge hle (by simp) hB ?_, hnew #[] _ ((Below.refl _ _).drew.alloc (Nat.le_refl _) _) _, .inr fun b hb => by simp [Value.ownBlock] at hb; omega⟩
    · rw [Array.size_append, size_zeroCells]
      simp [Value.cells]
      omega
    · intro j u hj
      refine (Blk.new w.drew _ _).cell j u ?_
      match j, hj with
      | 0, hj =>
        rw [Array.getElem?_append_left (by simp)]
        simpa using hj
      | j + 1, hj => simp at hj
  · have hsa : w.shape? vb = some (3, 1) := by simp [World.shape?, show w.heap[vb]? = _ from hx]
    have hsb : w.shape? g = some (3, cur.size) := by simp [World.shape?, show w.heap[g]? = _ from hblk]
    have hvg : vb ≠ g := fun e => hvb (by rw [e]; rfl)
    have hcell : ∀ j u, (l.map (Value.int .i64))[j]? = some u → w.cell? ⟨g, 0 + j, none⟩ = some u := fun j u hj => by
      have hjn : j < n := by have := (List.getElem?_eq_some_iff.1 hj).1; simp at this; omega
      rw [Nat.zero_add, hown.cellAt j (by omega)]
      exact hj
    have hblk' : Blk w g cur 3 := hblk
    have hthere : ∀ j, j < cap → (w.cell? ⟨g, j, none⟩).isSome = true := fun j hj => by rw [hblk'.cell j (cur[j]'(by omega)) (Array.getElem?_eq_getElem (by omega))]; rfl
    have hgl : g < w.heap.size := hblk'.lt
    by_cases hr : n + 1 ≤ cap
    · by_cases hin : i < n
      · refine (Any2.slices_Insert_int_shift Try.lays21 g 0 n cap i vb 0 1 1 (l.map (Value.int .i64)) [.int .i64 x] w hin (by omega) hr (by unfold maxLen at hcm; omega) hvg (by simpa using hl) rfl hcell (fun j hj => by rw [Nat.zero_add]; exact hthere j (by omega)) (fun j hj => hblk'.free _) hvs h1c h1v _ _ _ _ hsa hsb (by omega) (hx.free _) (hx.free _)).mono ?_
        rintro e w' ⟨rfl, rfl⟩
        have hown' : w.drew.ownsRow B 3 1 (.slice (some ⟨g, 0, none⟩) n cap) n (l.map (Value.int .i64)) := hown
        obtain ⟨h1, h2⟩ := own_insert hown' hi hr hBg (.int .i64 x)
        exact ⟨_, rfl, h1, ⟨h2.os, h2.tape, h2.output, h2.size, h2.block⟩, .inl rfl⟩
      · obtain rfl : i = n := by omega
        refine (Any2.slices_Insert_int_end_room Try.lays21 g 0 i cap vb 0 1 1 [.int .i64 x] w (by omega) hr (by unfold maxLen at hcm; omega) rfl (fun j hj => by rw [Nat.zero_add]; exact hthere _ (by omega)) (fun j hj => hblk'.free _) hvs h1v).mono ?_
        rintro e w' ⟨rfl, rfl⟩
        obtain ⟨h1, h2⟩ := own_insert hown (Nat.le_refl _) hr hBg (.int .i64 x)
        have hd : (l.map (Value.int .i64)).drop i = [] := List.drop_eq_nil_of_le (by simp; omega)
        rw [hd] at h1 h2 ⊢
        exact ⟨_, rfl, h1, h2, .inl rfl⟩
    · by_cases hin : i < n
      · refine (Any2.slices_Insert_int_grow Try.lays21 g 0 n cap i vb 0 1 1 (l.map (Value.int .i64)) [.int .i64 x] w hin (by omega) hnc (by omega) (by omega) (by simpa using hl) rfl hcell hvs h1c h1v).mono ?_
        rintro e w' ⟨rfl, rfl⟩
        have hge := grownCap_ge w (n + 1) cap (Try.lays21_ren.t 3)
        have hle := grownCap_le_maxLen w (n + 1) cap (Try.lays21_ren.t 3) (by unfold maxLen; omega)
        generalize grownCap w (n + 1) cap (Try.lays21_ren.t 3) = G at *
        obtain ⟨xs, hxs⟩ : ∃ xs, l.map (Value.int .i64) = xs := ⟨_, rfl⟩
        have hxl : xs.length = n := by rw [← hxs]; simpa using hl
        rw [hxs]
        obtain ⟨ROW, hROW⟩ : ∃ ROW : Array Value, ROW = (xs.take i).toArray ++ Builtin.zeroCells (Value.int .i64 0).cells (n + 1 - i) ++ Builtin.zeroCells (Value.int .i64 0).cells (G - (n + 1)) := ⟨_, rfl⟩
        have hRs : ROW.size = G := by
          rw [hROW, Array.size_append, Array.size_append, size_zeroCells, size_zeroCells]
          simp [Value.cells, List.length_take]
          omega
        have hRt : ∀ j u, j < i → xs[j]? = some u → ROW[j]? = some u := by
          intro j u hj hu
          rw [hROW, Array.append_assoc, Array.getElem?_append_left (by simp [List.length_take]; omega)]
          simp [List.getElem?_take, hj, hu]
        rw [← hROW]
        clear hROW
        have hb0 := Blk.new w ROW (Try.lays21_ren.t 3)
        obtain ⟨cs1, hb1, hs1⟩ := blk_setCells [Value.int .i64 x] i (Blk.drew hb0)
        obtain ⟨cs2, hb2, hs2⟩ := blk_setCells (xs.drop i) (i + 1) (Blk.drew hb1)
        have hdl : (xs.drop i).length = n - i := by rw [List.length_drop, hxl]
        have hbel : Below w.heap.size w ((((w.alloc (.cells ROW (Try.lays21_ren.t 3))).drew.setCells w.heap.size i [Value.int .i64 x]).drew).setCells w.heap.size (i + 1) (xs.drop i)) :=
          setCells_below _ _ (setCells_below _ _ ((Below.refl _ _).alloc (Nat.le_refl _) _).drew (Nat.le_refl _)).drew (Nat.le_refl _)
        refine ⟨_, rfl, own_cells hb2 (by omega) hge hle (by simp; omega) hB ?_, hnew #[] _ hbel _, .inr fun b hb => by simp [Value.ownBlock] at hb; omega⟩
        intro q z hz
        have hq : q < n + 1 := by
          have := (List.getElem?_eq_some_iff.1 hz).1
          simp at this
          omega
        rw [List.getElem?_append] at hz
        have htl : (xs.take i).length = i := by rw [List.length_take]; omega
        rw [htl] at hz
        by_cases h1 : q < i
        · rw [if_pos h1, List.getElem?_take, if_pos h1] at hz
          rw [World.cell?_setCells_out _ _ _ _ ⟨w.heap.size, q, none⟩ (fun _ _ => by simp; omega)]
          show World.cell? (World.setCells _ _ _ _) _ = _
          rw [World.cell?_setCells_out _ _ _ _ ⟨w.heap.size, q, none⟩ (fun _ _ => by simp; omega)]
          exact hb0.cell q z (hRt q z h1 hz)
        · rw [if_neg h1] at hz
          by_cases h2 : q = i
          · subst h2
            rw [Nat.sub_self] at hz
            rw [World.cell?_setCells_out _ _ _ _ ⟨w.heap.size, q, none⟩ (fun _ _ => by simp)]
            have h3 := World.cell?_setCells_in w.heap.size [Value.int .i64 x] q (w.alloc (.cells ROW (Try.lays21_ren.t 3))).drew (fun j hj => by
              have hj0 : j = 0 := by simp at hj; exact hj
              subst hj0
              rw [Nat.add_zero, (Blk.drew hb0).cell q (ROW[q]'(by omega)) (Array.getElem?_eq_getElem (by omega))]; rfl) 0 (by simp)
            rw [Nat.add_zero] at h3
            refine Eq.trans h3 ?_
            simpa using hz
          · rw [show q - i = (q - i - 1) + 1 by omega, List.getElem?_cons_succ] at hz
            have h4 : q - i - 1 < (xs.drop i).length := (List.getElem?_eq_some_iff.1 hz).1
            have h3 := World.cell?_setCells_in w.heap.size (xs.drop i) (i + 1) ((w.alloc (.cells ROW (Try.lays21_ren.t 3))).drew.setCells w.heap.size i [Value.int .i64 x]).drew (fun j hj => by
              rw [(Blk.drew hb1).cell _ (cs1[i + 1 + j]'(by omega)) (Array.getElem?_eq_getElem (by omega))]; rfl) (q - i - 1) h4
            rw [show i + 1 + (q - i - 1) = q by omega] at h3
            rw [h3, ← hz, List.getElem?_eq_getElem h4]
      · obtain rfl : i = n := by omega
        refine (Any2.slices_Insert_int_end_grow Try.lays21 (some ⟨g, 0, none⟩) i cap vb 0 1 1 (l.map (Value.int .i64)) [.int .i64 x] w (by omega) hnc (by omega) (by omega) (by simpa using hl) rfl (fun h => by cases h) (fun a h j u hj => by injection h with h; subst h; rw [Addr.add_lit]; exact hcell j u hj) hvs h1v).mono ?_
        rintro e w' ⟨rfl, rfl⟩
        have hge := grownCap_ge w (i + 1) cap (Try.lays21_ren.t 3)
        have hle := grownCap_le_maxLen w (i + 1) cap (Try.lays21_ren.t 3) (by unfold maxLen; omega)
        have hd : (l.map (Value.int .i64)).drop i = [] := List.drop_eq_nil_of_le (by simp; omega)
        have ht : (l.map (Value.int .i64)).take i = l.map (Value.int .i64) := List.take_of_length_le (by simp; omega)
        rw [hd, ht]
        refine ⟨_, rfl, own_cells (Blk.new w.drew _ _) ?_ hge hle (by simp; omega) hB ?_, hnew #[] _ ((Below.refl _ _).drew.alloc (Nat.le_refl _) _) _, .inr fun b hb => by simp [Value.ownBlock] at hb; omega⟩
        · rw [Array.size_append, size_zeroCells]
          simp [Value.cells]
          omega
        · intro j u hj
          refine (Blk.new w.drew _ _).cell j u ?_
          have hjl : j < (l.map (Value.int .i64) ++ [Value.int .i64 x]).length := (List.getElem?_eq_some_iff.1 hj).1
          rw [Array.getElem?_append_left (by simpa using hjl)]
          simpa using hj

end Go.Proofs.Ytleemgjbihdbgaa
