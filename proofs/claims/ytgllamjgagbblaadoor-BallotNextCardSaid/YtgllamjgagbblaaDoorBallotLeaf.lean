/-
  ballot: may a record be, whose a ballot is, the next one: by contract.
-/
import Derived.Test.YtgllamjgagbblaaDoorBallotMath
namespace Go.Proofs.YtgllamjgagbblaaDoor
open Go.RowKit
set_option linter.unusedVariables false
set_option linter.unusedSimpArgs false

/-- A record's cells. -/
def recC (i m b : Int) (s : ByteArray) : Array Value := #[.int .i64 i, .int .i64 m, .int .i64 b, .string s]
theorem rec_cells {w : World} {q : Nat} {i m b : Int} {s : ByteArray} {T : TypeId} (p : Blk w q #[.int .i64 i, .int .i64 m, .int .i64 b, .string s] T) :
    w.cell? ⟨q, 0, none⟩ = some (.int .i64 i) ∧ w.cell? ⟨q, 1, none⟩ = some (.int .i64 m) ∧ w.cell? ⟨q, 2, none⟩ = some (.int .i64 b) ∧ w.cell? ⟨q, 3, none⟩ = some (.string s) :=
  ⟨p.cell 0 _ rfl, p.cell 1 _ rfl, p.cell 2 _ rfl, p.cell 3 _ rfl⟩

set_option maxRecDepth 100000 in
theorem bwithin_any (n a b : Int) (w : World) :
    Calls Tryd.prog 21 #[.int .i64 n, .int .i64 a, .int .i64 b] w fun e w' => e = .returned (.bool (decide (a ≤ n) && decide (n ≤ b))) ∧ w = w' := by
  go_enter Tryd.func21, Tryd.ntmps21
  by_cases h : a ≤ n
  · by_cases h2 : n ≤ b
    · have HV : Hid ((decide (a ≤ n) && decide (n ≤ b)) = true) := by show _ = _; simp [h, h2]
      go_wp2_with fail
      go_ret
      exact ⟨by rw [HV.out] <;> rfl, rfl⟩
    · have HV : Hid ((decide (a ≤ n) && decide (n ≤ b)) = false) := by show _ = _; simp [h2]
      have hd : decide (n ≤ b) = false := decide_eq_false h2
      clear h2
      go_wp2_with fail
      go_ret
      exact ⟨by rw [HV.out] <;> rfl, rfl⟩
  · have HV : Hid ((decide (a ≤ n) && decide (n ≤ b)) = false) := by show _ = _; simp [h]
    have h3 : n < a := by omega
    clear h
    go_wp2_with fail
    go_ret
    exact ⟨by rw [HV.out] <;> rfl, rfl⟩

def numB (i m b : Int) : Bool := (decide (0 ≤ i) && decide (i ≤ 512)) && ((decide (0 ≤ m) && decide (m ≤ 1099511627776)) && (decide (0 ≤ b) && decide (b ≤ m)))
def valB (b : Int) (v : ByteArray) : Bool := if 0 < b then decide (1 ≤ v.size) && decide (v.size ≤ 64) else decide (v.size = 0)
theorem recMay_parts (i m b : Int) (v : ByteArray) : recMay i m b v = (numB i m b && valB b v) := by
  unfold recMay numB valB
  simp only [Bool.and_assoc]
theorem size_zero {v : ByteArray} (h : v.size = 0) : v = ⟨#[]⟩ := by
  obtain ⟨⟨l⟩⟩ := v
  have : l.length = 0 := h
  cases l with
  | nil => rfl
  | cons a l => simp at this

theorem ne_empty {R : ByteArray} (h : ¬ R = ⟨#[]⟩) : R.toList.isEmpty = false := by
  have h1 := str_diff h
  rw [show (⟨#[]⟩ : ByteArray).toList = [] from by kernel_rfl] at h1
  cases hl : R.toList with
  | nil => rw [hl] at h1; simp at h1
  | cons a l => rfl

set_option maxRecDepth 100000 in
set_option maxHeartbeats 1000000 in
theorem numbersMay_any (i m b : Int) (s : ByteArray) (w : World) :
    Calls Tryd.prog 26 #[.agg #[.int .i64 i, .int .i64 m, .int .i64 b, .string s]] w fun e w' => e = .returned (.bool (numB i m b)) ∧ Below w.heap.size w w' := by
  have hb : Below w.heap.size w (w.alloc (.cells #[.int .i64 i, .int .i64 m, .int .i64 b, .string s] 40)) := (Below.refl _ _).alloc (Nat.le_refl _) _
  go_enter Tryd.func26, Tryd.ntmps26
  go_wp2_with fail
  refine (bwithin_any i 0 512 _).mono ?_
  rintro e w1 ⟨rfl, rfl⟩
  obtain ⟨p, hp⟩ : ∃ p, Hid ((decide (0 ≤ i) && decide (i ≤ 512)) = p) := ⟨_, rfl⟩
  rw [hp.out]
  cases p
  · go_wp2_with fail
    go_ret
    exact ⟨by unfold numB; rw [hp.out]; rfl, hb⟩
  · go_wp2_with fail
    refine (bwithin_any m 0 1099511627776 _).mono ?_
    rintro e w1 ⟨rfl, rfl⟩
    obtain ⟨q, hq⟩ : ∃ q, Hid ((decide (0 ≤ m) && decide (m ≤ 1099511627776)) = q) := ⟨_, rfl⟩
    rw [hq.out]
    cases q
    · go_wp2_with fail
      go_ret
      exact ⟨by unfold numB; rw [hp.out, hq.out]; rfl, hb⟩
    · go_wp2_with fail
      refine (bwithin_any b 0 m _).mono ?_
      rintro e w1 ⟨rfl, rfl⟩
      obtain ⟨r, hr⟩ : ∃ r, Hid ((decide (0 ≤ b) && decide (b ≤ m)) = r) := ⟨_, rfl⟩
      rw [hr.out]
      go_wp2_with fail
      go_ret
      exact ⟨by unfold numB; rw [hp.out, hq.out, hr.out]; rfl, hb⟩

set_option maxRecDepth 100000 in
set_option maxHeartbeats 1000000 in
theorem valMay_any (i m b : Int) (s : ByteArray) (w : World) (hs : s.size ≤ maxLen) :
    Calls Tryd.prog 27 #[.agg #[.int .i64 i, .int .i64 m, .int .i64 b, .string s]] w fun e w' => e = .returned (.bool (valB b s)) ∧ Below w.heap.size w w' := by
  have hb : Below w.heap.size w (w.alloc (.cells #[.int .i64 i, .int .i64 m, .int .i64 b, .string s] 40)) := (Below.refl _ _).alloc (Nat.le_refl _) _
  unfold maxLen at hs
  go_enter Tryd.func27, Tryd.ntmps27
  by_cases h : 0 < b
  · go_wp2_with fail
    refine (bwithin_any s.size 1 64 _).mono ?_
    rintro e w1 ⟨rfl, rfl⟩
    have HV : Hid (valB b s = (decide ((1 : Int) ≤ (s.size : Int)) && decide ((s.size : Int) ≤ 64))) := by
      show _ = _
      unfold valB
      rw [if_pos h, show decide (1 ≤ s.size) = decide ((1 : Int) ≤ (s.size : Int)) from by simp only [decide_eq_decide]; omega, show decide (s.size ≤ 64) = decide ((s.size : Int) ≤ 64) from by simp only [decide_eq_decide]; omega]
    clear h
    generalize (decide ((1 : Int) ≤ (s.size : Int)) && decide ((s.size : Int) ≤ 64)) = r at *
    go_wp2_with fail
    go_ret
    exact ⟨by rw [HV.out] <;> rfl, hb⟩
  · have h' : b ≤ 0 := by omega
    by_cases hz : s = ⟨#[]⟩
    · subst hz
      have HV : Hid (valB b ⟨#[]⟩ = true) := by show _ = _; unfold valB; rw [if_neg h]; decide
      clear h
      go_wp2_with fail
      go_ret
      exact ⟨by rw [HV.out] <;> rfl, hb⟩
    · have HV : Hid (valB b s = false) := by
        show _ = _
        unfold valB
        rw [if_neg h]
        exact decide_eq_false fun hh => hz (size_zero hh)
      have hd := ne_empty hz
      clear h hz
      go_wp2_with fail
      go_ret
      exact ⟨by rw [HV.out] <;> rfl, hb⟩

set_option maxRecDepth 100000 in
set_option maxHeartbeats 1000000 in
theorem rmay_any (i m b : Int) (s : ByteArray) (w : World) (hs : s.size ≤ maxLen) :
    Calls Tryd.prog 17 #[.agg #[.int .i64 i, .int .i64 m, .int .i64 b, .string s]] w fun e w' => e = .returned (.bool (recMay i m b s)) ∧ Below w.heap.size w w' := by
  have hb : Below w.heap.size w (w.alloc (.cells #[.int .i64 i, .int .i64 m, .int .i64 b, .string s] 40)) := (Below.refl _ _).alloc (Nat.le_refl _) _
  have p0 := Blk.new w #[.int .i64 i, .int .i64 m, .int .i64 b, .string s] 40
  have HM := Lib.hid (recMay_parts i m b s)
  go_enter Tryd.func17, Tryd.ntmps17
  go_wp2_with fail
  refine (numbersMay_any i m b s _).mono ?_
  rintro e w1 ⟨rfl, hb1⟩
  have p1 := p0.below hb1 p0.lt
  have b1 := below_then hb hb1
  obtain ⟨p, hp⟩ : ∃ p, Hid (numB i m b = p) := ⟨_, rfl⟩
  rw [hp.out]
  rw [hp.out] at HM
  obtain ⟨c0, c1, c2, c3⟩ := rec_cells p1
  clear hb hb1 p0
  cases p
  · go_wp2_with fail
    go_ret
    exact ⟨by rw [HM.out] <;> rfl, b1⟩
  · go_wp2_with fail
    refine (valMay_any i m b s _ hs).mono ?_
    rintro e w2 ⟨rfl, hb2⟩
    have b2 := below_then b1 hb2
    clear b1 hb2 p1 c0 c1 c2 c3
    go_wp2_with fail
    go_ret
    exact ⟨by rw [HM.out] <;> rfl, b2⟩

set_option maxRecDepth 100000 in
set_option maxHeartbeats 1000000 in
theorem bMay_any (i m b : Int) (s : ByteArray) (w : World) (hs : s.size ≤ maxLen) :
    Calls Tryd.prog 10 #[.agg #[.int .i64 i, .int .i64 m, .int .i64 b, .string s]] w fun e w' => e = .returned (.bool (recMay i m b s)) ∧ Below w.heap.size w w' := by
  have hb : Below w.heap.size w (w.alloc (.cells #[.int .i64 i, .int .i64 m, .int .i64 b, .string s] 24)) := (Below.refl _ _).alloc (Nat.le_refl _) _
  go_enter Tryd.func10, Tryd.ntmps10
  go_wp2_with fail
  refine (rmay_any i m b s _ hs).mono ?_
  rintro e w1 ⟨rfl, hb1⟩
  have b1 := below_then hb hb1
  clear hb hb1
  go_wp2_with fail
  go_ret
  exact ⟨rfl, b1⟩

set_option maxRecDepth 100000 in
theorem bis_any (n : Int) (w : World) :
    Calls Tryd.prog 19 #[.int .i64 n] w fun e w' => e = .returned (.bool (decide (0 ≤ n) && decide (n ≤ 15))) ∧ w = w' := by
  go_enter Tryd.func19, Tryd.ntmps19
  go_wp2_with fail
  refine (bwithin_any n 0 15 _).mono ?_
  rintro e w1 ⟨rfl, rfl⟩
  obtain ⟨r, hr⟩ : ∃ r, Hid ((decide (0 ≤ n) && decide (n ≤ 15)) = r) := ⟨_, rfl⟩
  rw [hr.out]
  go_wp2_with fail
  go_ret
  exact ⟨by rw [hr.out]; rfl, rfl⟩

set_option maxRecDepth 100000 in
theorem babove_any (n t : Int) (w : World) (h1 : 0 ≤ n) (h2 : n ≤ 15) (h3 : 15 ≤ t) (h4 : t < 1099511627776) :
    Calls Tryd.prog 20 #[.int .i64 n, .int .i64 t] w fun e w' => e = .returned (.int .i64 (16 * ((t - n) / 16 + 1) + n)) ∧ w = w' := by
  have hq := quo_bd (d := t - n) (e := 16) (by omega) (by omega)
  obtain ⟨q, hQ⟩ : ∃ q, Hid ((t - n) / 16 = q) := ⟨_, rfl⟩
  have e1 : (t - n).tdiv 16 = q := by rw [← hQ.out]; exact Int.tdiv_eq_ediv_of_nonneg (by omega)
  rw [hQ.out] at hq ⊢
  obtain ⟨q0, q1, _, _⟩ := hq
  have w1 : wrap64 (t - n) = t - n := IntWalk.wrap64_in _ ⟨by omega, by omega⟩
  have w2 : wrap64 (q + 1) = q + 1 := IntWalk.wrap64_in _ ⟨by omega, by omega⟩
  go_enter Tryd.func20, Tryd.ntmps20
  go_wp2_with fail
  go_ret
  exact ⟨rfl, rfl⟩

set_option maxRecDepth 100000 in
set_option maxHeartbeats 1000000 in
theorem bgreatest_any (B n c : Nat) (A : Option Addr) (l : List Int) (w : World) (hA : Lies w B A n (l.map (Value.int .i64))) (hn : n ≤ 9223372036854775807) :
    Calls Tryd.prog 18 #[.slice A n c] w fun e w' => e = .returned (.int .i64 (topV l)) ∧ w = w' := by
  have HL : Hid (l.length = n) := by show _ = _; simpa using hA.1
  go_enter Tryd.func18, Tryd.ntmps18
  go_wp2_with fail
  go_loopw [3, 8] (fun t i wr => ∃ k : Nat, k ≤ n ∧ i = .int .i64 k ∧ t = .int .i64 (topV (l.take k)) ∧ wr = w) (fun _ i _ => n - (intOf i).toNat)
  case atStart => exact ⟨0, Nat.zero_le _, rfl, rfl, rfl⟩
  case round =>
    obtain ⟨k, hk, rfl, rfl, rfl⟩ := hrel
    by_cases hlt : k < n
    · have hkl : k < l.length := by rw [HL.out]; exact hlt
      obtain ⟨ad, u, rfl, had, hu, hc⟩ := hA.at_ hlt
      obtain rfl : u = .int .i64 l[k] := by
        rw [List.getElem?_map, List.getElem?_eq_getElem hkl] at hu
        exact (Option.some.inj hu).symm
      have HX := Lib.hid (topV_take hkl)
      clear hu hA
      generalize l[k] = x at *
      generalize topV (l.take k) = t at *
      go_wp2_with fail
      go_roundw
      case rel => exact ⟨k + 1, by omega, by go_num, by rw [HX.out]; exact congrArg _ (by split <;> omega), trivial⟩
      case measure => simp [intOf]; omega
    · have hkn : k = n := by omega
      have HX : Hid (topV (l.take k) = topV l) := by
        show _ = _
        rw [hkn, ← HL.out, List.take_length]
      clear hlt
      generalize topV (l.take k) = t at *
      go_wp2_with fail
      go_ret
      exact ⟨by rw [HX.out] <;> rfl, rfl⟩

set_option maxRecDepth 100000 in
set_option maxHeartbeats 1000000 in
theorem bNext_any (node : Int) (B n c : Nat) (A : Option Addr) (l : List Int) (w : World) (hA : Lies w B A n (l.map (Value.int .i64))) (hn : n ≤ 9223372036854775807) :
    Calls Tryd.prog 11 #[.int .i64 node, .slice A n c] w fun e w' => e = .returned (.int .i64 (nextV node l)) ∧ w = w' := by
  have ht := topV_le l
  have HN := Lib.hid (next_no (node := node) (l := l))
  have HY := Lib.hid (next_yes (node := node) (l := l))
  go_enter Tryd.func11, Tryd.ntmps11
  go_wp2_with fail
  refine (bgreatest_any B n c A l _ hA hn).mono ?_
  rintro e w1 ⟨rfl, rfl⟩
  generalize topV l = t at *
  clear hA
  go_wp2_with fail
  refine (bis_any node _).mono ?_
  rintro e w1 ⟨rfl, rfl⟩
  by_cases h0 : 0 ≤ node ∧ node ≤ 15
  · rw [decide_eq_true h0.1, decide_eq_true h0.2]
    obtain ⟨h1, h2⟩ := h0
    by_cases h3 : t < 1099511627776
    · have HY2 := Lib.hid (HY.out h1 h2 h3)
      have hab := babove_any node t w h1 h2 ht h3
      have hq := quo_bd (d := t - node) (e := 16) (by omega) (by omega)
      obtain ⟨b, hB⟩ : ∃ b, Hid (16 * ((t - node) / 16 + 1) + node = b) := ⟨_, rfl⟩
      rw [hB.out] at hab HN HY2
      have hb1 : -9223372036854775808 ≤ b ∧ b ≤ 9223372036854775807 := by
        rw [← hB.out]
        omega
      clear hq HY
      go_wp2_with fail
      refine hab.mono ?_
      rintro e w1 ⟨rfl, rfl⟩
      clear hab
      by_cases h4 : b ≤ 1099511627776
      · have HZ := Lib.hid (HY2.out h4)
        clear HY2
        go_wp2_with fail
        go_ret
        exact ⟨by rw [HZ.out] <;> rfl, rfl⟩
      · have HZ := Lib.hid (HN.out (fun h => h4 h.2.2.2))
        have h5 : 1099511627776 < b := by omega
        clear HY2 h4
        go_wp2_with fail
        go_ret
        exact ⟨by rw [HZ.out] <;> rfl, rfl⟩
    · have HZ := Lib.hid (HN.out (fun h => h3 h.2.2.1))
      have h5 : 1099511627776 ≤ t := by omega
      clear HY h3
      go_wp2_with fail
      go_ret
      exact ⟨by rw [HZ.out] <;> rfl, rfl⟩
  · have HZ := Lib.hid (HN.out (fun h => h0 ⟨h.1, h.2.1⟩))
    have hf : (decide (0 ≤ node) && decide (node ≤ 15)) = false := by
      rw [Bool.and_eq_false_iff, decide_eq_false_iff_not, decide_eq_false_iff_not]
      omega
    rw [hf]
    clear HY h0 hf
    go_wp2_with fail
    go_ret
    exact ⟨by rw [HZ.out] <;> rfl, rfl⟩

set_option maxRecDepth 100000 in
set_option maxHeartbeats 1000000 in
theorem bNode_any (b : Int) (w : World) :
    Calls Tryd.prog 12 #[.int .i64 b] w fun e w' => e = .returned (.int .i64 (nodeV b)) ∧ w = w' := by
  go_enter Tryd.func12, Tryd.ntmps12
  go_wp2_with fail
  refine (bwithin_any b 16 1099511627776 _).mono ?_
  rintro e w1 ⟨rfl, rfl⟩
  by_cases h : 16 ≤ b ∧ b ≤ 1099511627776
  · have HX := Lib.hid (node_yes h.1 h.2)
    rw [decide_eq_true h.1, decide_eq_true h.2]
    have e1 : b.tmod 16 = b % 16 := Int.tmod_eq_emod_of_nonneg (by omega)
    obtain ⟨h1, h2⟩ := h
    go_wp2_with fail
    go_ret
    exact ⟨by rw [HX.out] <;> first | rfl | (rw [← e1]; rfl), rfl⟩
  · have HX := Lib.hid (node_no h)
    have hf : (decide (16 ≤ b) && decide (b ≤ 1099511627776)) = false := by
      rw [Bool.and_eq_false_iff, decide_eq_false_iff_not, decide_eq_false_iff_not]
      omega
    rw [hf]
    clear h hf
    go_wp2_with fail
    go_ret
    exact ⟨by rw [HX.out] <;> rfl, rfl⟩

end Go.Proofs.YtgllamjgagbblaaDoor
