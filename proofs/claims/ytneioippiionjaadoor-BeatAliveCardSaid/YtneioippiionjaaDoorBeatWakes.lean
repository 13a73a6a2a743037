/-
  What the document says of a watch of 5 holds; whether a number is further than 2^50 is told.
-/
import Derived.Test.YtneioippiionjaaDoorBeatLook
namespace Go.Proofs.YtneioippiionjaaDoor
open Go.RowKit
set_option linter.unusedVariables false
set_option linter.unusedSimpArgs false

theorem beatS_size {k c : Int} (h : beatMay k c = true) : (beatS k c).size ≤ maxLen := by
  obtain ⟨_, _, hm⟩ := makeB_iff.1 (beat_ok h)
  have h1 := isS_sealS hm (by omega : (3 : Int) ≤ 127)
  obtain ⟨h7, h5, _⟩ := isI_parts h1
  rw [bytesI_length] at h5
  unfold beatS maxLen
  omega

/-- A geometry's cells, a watch's. -/
theorem geo_cells {w : World} {b : Nat} {a c d e f g h i : Int} {T : TypeId} (p : Blk w b #[.int .i64 a, .int .i64 c, .int .i64 d, .int .i64 e, .int .i64 f, .int .i64 g, .int .i64 h, .int .i64 i] T) :
    w.cell? ⟨b, 0, none⟩ = some (.int .i64 a) ∧ w.cell? ⟨b, 1, none⟩ = some (.int .i64 c) ∧ w.cell? ⟨b, 2, none⟩ = some (.int .i64 d) ∧ w.cell? ⟨b, 3, none⟩ = some (.int .i64 e) ∧
    w.cell? ⟨b, 4, none⟩ = some (.int .i64 f) ∧ w.cell? ⟨b, 5, none⟩ = some (.int .i64 g) ∧ w.cell? ⟨b, 6, none⟩ = some (.int .i64 h) ∧ w.cell? ⟨b, 7, none⟩ = some (.int .i64 i) :=
  ⟨p.cell 0 _ rfl, p.cell 1 _ rfl, p.cell 2 _ rfl, p.cell 3 _ rfl, p.cell 4 _ rfl, p.cell 5 _ rfl, p.cell 6 _ rfl, p.cell 7 _ rfl⟩
theorem watch_cells {w : World} {b : Nat} {a c d : Int} {e : Bool} {T : TypeId} (p : Blk w b #[.int .i64 a, .int .i64 c, .int .i64 d, .bool e] T) :
    w.cell? ⟨b, 0, none⟩ = some (.int .i64 a) ∧ w.cell? ⟨b, 1, none⟩ = some (.int .i64 c) ∧ w.cell? ⟨b, 2, none⟩ = some (.int .i64 d) ∧ w.cell? ⟨b, 3, none⟩ = some (.bool e) :=
  ⟨p.cell 0 _ rfl, p.cell 1 _ rfl, p.cell 2 _ rfl, p.cell 3 _ rfl⟩

set_option maxRecDepth 100000 in
set_option maxHeartbeats 1000000 in
theorem wakes_any (w : World) (ht : TabOk w) : Calls Tryd.prog 5 #[] w fun e w' => e = .returned (.bool true) ∧ Below w.heap.size w w' := by
  have hm : beatMay 17 1 = true := by decide
  have HB := Lib.hid (beat_yes hm)
  have hS := beatS_size hm
  have HK := Lib.hid (seen_beat hm)
  clear hm
  have b0 : Below w.heap.size w (w.alloc (.cells #[.int .i64 0, .int .i64 0, .int .i64 0, .int .i64 0, .int .i64 0, .int .i64 0, .int .i64 3, .int .i64 5] 25)) := (Below.refl _ _).alloc (Nat.le_refl _) _
  have p0 := Blk.new w #[.int .i64 0, .int .i64 0, .int .i64 0, .int .i64 0, .int .i64 0, .int .i64 0, .int .i64 3, .int .i64 5] 25
  go_enter Tryd.func5, Tryd.ntmps5
  go_wp2_with fail
  refine (beatBytes_any 17 1 _ (ht.below b0)).mono ?_
  rintro e w1 ⟨rfl, hb1⟩
  rw [HB.out.1, HB.out.2]
  have p1 := p0.below hb1 p0.lt
  have b1 := below_then b0 hb1
  generalize beatS 17 1 = S at *
  clear p0 b0 hb1
  go_wp2_with fail
  refine (Look_any 0 0 0 10 false S _ hS (ht.below b1)).mono ?_
  rintro e w2 ⟨rfl, hb2⟩
  have HL : Hid (lookV 0 0 0 false S 10 = #[.int .i64 17, .int .i64 1, .int .i64 10, .bool true]) := by
    have h : lookB 0 0 false S = false := rfl
    show _ = _
    rw [look_no h, HK.out.1, HK.out.2]
  rw [HL.out]
  have p2 := p1.below hb2 p1.lt
  have b2 := below_then b1 hb2
  clear p1 b1 hb2 HL
  have p3 := p2.alloc (.cells #[.int .i64 17, .int .i64 1, .int .i64 10, .bool true] 27)
  have q3 := Blk.new w2 #[.int .i64 17, .int .i64 1, .int .i64 10, .bool true] 27
  have b3 := b2.alloc b2.size (.cells #[.int .i64 17, .int .i64 1, .int .i64 10, .bool true] 27)
  obtain ⟨g0, g1, g2, g3, g4, g5, g6, g7⟩ := geo_cells p3
  obtain ⟨h0, h1, h2, h3⟩ := watch_cells q3
  clear p2
  have D1 : Hid (deadB 5 17 10 true 14 = false) := by show _ = _; decide
  have D2 : Hid (deadB 5 17 10 true 15 = true) := by show _ = _; decide
  have O1 : Hid (overB 3 10 13 = false) := by show _ = _; decide
  have O2 : Hid (overB 3 10 14 = true) := by show _ = _; decide
  go_wp2_with fail
  refine (Dead_any 0 0 0 0 0 0 3 5 17 1 10 14 true _ (by omega) (by omega) (by omega) (by omega) (by omega) (by omega)).mono ?_
  rintro e w4 ⟨rfl, hb4⟩
  rw [D1.out]
  have p4 := p3.below hb4 p3.lt
  have q4 := q3.below hb4 q3.lt
  have b4 := below_then b3 hb4
  clear p3 q3 b3 hb4 g0 g1 g2 g3 g4 g5 g6 g7 h0 h1 h2 h3 D1
  obtain ⟨g0, g1, g2, g3, g4, g5, g6, g7⟩ := geo_cells p4
  obtain ⟨h0, h1, h2, h3⟩ := watch_cells q4
  go_wp2_with fail
  refine (Dead_any 0 0 0 0 0 0 3 5 17 1 10 15 true _ (by omega) (by omega) (by omega) (by omega) (by omega) (by omega)).mono ?_
  rintro e w5 ⟨rfl, hb5⟩
  rw [D2.out]
  have p5 := p4.below hb5 p4.lt
  have b5 := below_then b4 hb5
  clear p4 q4 b4 hb5 g0 g1 g2 g3 g4 g5 g6 g7 h0 h1 h2 h3 D2
  obtain ⟨g0, g1, g2, g3, g4, g5, g6, g7⟩ := geo_cells p5
  go_wp2_with fail
  refine (Over_any 0 0 0 0 0 0 3 5 10 13 _ (by omega) (by omega) (by omega) (by omega) (by omega) (by omega)).mono ?_
  rintro e w6 ⟨rfl, hb6⟩
  rw [O1.out]
  have p6 := p5.below hb6 p5.lt
  have b6 := below_then b5 hb6
  clear p5 b5 hb6 g0 g1 g2 g3 g4 g5 g6 g7 O1
  obtain ⟨g0, g1, g2, g3, g4, g5, g6, g7⟩ := geo_cells p6
  go_wp2_with fail
  refine (Over_any 0 0 0 0 0 0 3 5 10 14 _ (by omega) (by omega) (by omega) (by omega) (by omega) (by omega)).mono ?_
  rintro e w7 ⟨rfl, hb7⟩
  rw [O2.out]
  have b7 := below_then b6 hb7
  clear p6 b6 hb7 g0 g1 g2 g3 g4 g5 g6 g7 O2
  go_wp2_with fail
  go_ret
  exact ⟨rfl, b7⟩

/-- Is a number of these further than 2^50? -/
def farB (l : List Int) : Bool := l.any fun x => decide (1125899906842624 < x) || decide (x < -1125899906842624)

theorem far_yes {l : List Int} {k : Nat} (h : k < l.length) (hx : 1125899906842624 < l[k] ∨ l[k] < -1125899906842624) : farB l = true := by
  unfold farB
  rw [List.any_eq_true]
  exact ⟨l[k], List.getElem_mem h, by simpa using hx⟩
theorem far_next {l : List Int} {k : Nat} (h : k < l.length) (hf : farB (l.take k) = false) (h1 : ¬ 1125899906842624 < l[k]) (h2 : ¬ l[k] < -1125899906842624) : farB (l.take (k + 1)) = false := by
  unfold farB at hf ⊢
  rw [List.take_succ_eq_append_getElem h, List.any_append, hf]
  simp [h1, h2]

set_option maxRecDepth 100000 in
set_option maxHeartbeats 1000000 in
theorem far_any (B n c : Nat) (A : Option Addr) (l : List Int) (w : World) (hA : Lies w B A n (l.map (Value.int .i64))) (hn : n ≤ 1099511627776) :
    Calls Tryd.prog 9 #[.slice A n c] w fun e w' => e = .returned (.bool (farB l)) ∧ w = w' := by
  have HL : Hid (l.length = n) := by show _ = _; simpa using hA.1
  go_enter Tryd.func9, Tryd.ntmps9
  go_wp2_with fail
  go_loopw [3] (fun i wr => ∃ k : Nat, k ≤ n ∧ i = .int .i64 k ∧ wr = w ∧ Hid (farB (l.take k) = false)) (fun i _ => n - (intOf i).toNat)
  case atStart => exact ⟨0, Nat.zero_le _, rfl, rfl, rfl⟩
  case round =>
    obtain ⟨k, hk, rfl, rfl, HF⟩ := hrel
    by_cases hlt : k < n
    · have hkl : k < l.length := by rw [HL.out]; exact hlt
      obtain ⟨ad, u, rfl, had, hu, hc⟩ := hA.at_ hlt
      obtain rfl : u = .int .i64 l[k] := by
        rw [List.getElem?_map, List.getElem?_eq_getElem hkl] at hu
        exact (Option.some.inj hu).symm
      have HY := Lib.hid (far_yes hkl)
      have HN := Lib.hid (far_next hkl HF.out)
      clear hu hA
      generalize l[k] = x at *
      by_cases h1 : 1125899906842624 < x
      · go_wp2_with fail
        go_ret
        exact ⟨by rw [HY.out (.inl h1)]; rfl, rfl⟩
      · by_cases h2 : x < -1125899906842624
        · go_wp2_with fail
          go_ret
          exact ⟨by rw [HY.out (.inr h2)]; rfl, rfl⟩
        · have HX : Hid (farB (l.take (k + 1)) = false) := HN.out h1 h2
          have h1' : x ≤ 1125899906842624 := by omega
          have h2' : -1125899906842624 ≤ x := by omega
          clear h1 h2 HN HY
          go_wp2_with fail
          go_roundw
          case rel => exact ⟨k + 1, by omega, by go_num, trivial, HX⟩
          simp [intOf]; omega
    · have hkn : k = n := by omega
      have HX : Hid (farB l = false) := by
        have h := HF.out
        rw [hkn, ← HL.out, List.take_length] at h
        exact h
      clear hlt HF
      go_wp2_with fail
      go_ret
      exact ⟨by rw [HX.out]; rfl, rfl⟩

end Go.Proofs.YtneioippiionjaaDoor
