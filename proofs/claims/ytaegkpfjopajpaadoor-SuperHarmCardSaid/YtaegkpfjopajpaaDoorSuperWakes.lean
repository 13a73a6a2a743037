/-
  What the document says of nothing and of a header holds; like rows of texts are the same; whether sectors are too great is told.
-/
import Derived.Test.YtaegkpfjopajpaaDoorSuperCheckLoop
import Derived.Test.YtaegkpfjopajpaaDoorSuperRefs
import Derived.Deep.QuietTactic
namespace Go.Proofs.YtaegkpfjopajpaaDoor
open Go.RowKit
set_option linter.unusedVariables false
set_option linter.unusedSimpArgs false

set_option maxRecDepth 100000 in
set_option maxHeartbeats 1000000 in
theorem swakes_any (w : World) (ht : TabOk w) : Calls Tryd.prog 7 #[] w fun e w' => e = .returned (.bool true) ∧ Below w.heap.size w w' := by
  have HH : Hid (headV' 7 = headS 7 ∧ headE 7 = 0) := ⟨rfl, rfl⟩
  have HT := Lib.hid (tail_head tail_seven).2
  have hsz : (headS 7).size ≤ maxLen := Nat.le_trans (tailB_size (tail_head tail_seven).1).2 (by unfold maxLen; omega)
  go_enter Tryd.func7, Tryd.ntmps7
  go_wp2_with fail
  refine (Check_none none 0 w).mono ?_
  rintro e w1 ⟨rfl, hb1⟩
  have hb1' := hb1.alloc hb1.size (.cells #[.int .i64 0, .int .i64 0, .int .i64 0, .int .i64 0, .int .i64 0, .int .i64 0, .int .i64 0, .int .i64 0] 23)
  have ht1 := ht.below hb1'
  go_wp2_with fail
  refine (Head_any 7 _ ht1).mono ?_
  rintro e w2 ⟨rfl, hb2⟩
  rw [HH.out.1, HH.out.2]
  have hb02 := below_then hb1' hb2
  have ht2 := ht.below hb02
  clear hb1 hb1' hb2 ht1
  generalize headS 7 = S at *
  go_wp2_with fail
  refine (Tail_any S _ hsz ht2).mono ?_
  rintro e w3 ⟨rfl, hb3⟩
  rw [HT.out.1, HT.out.2]
  have hb03 := below_then hb02 hb3
  clear hb02 hb3 ht2
  go_wp2_with fail
  go_ret
  exact ⟨rfl, hb03⟩

set_option maxRecDepth 100000 in
set_option maxHeartbeats 1000000 in
theorem same_any (A B : Option Addr) (Ba Bb n c d : Nat) (l : List ByteArray) (w : World) (hA : Lies w Ba A n (strV l)) (hB : Lies w Bb B n (strV l)) (hn : n ≤ 1099511627776) :
    Calls Tryd.prog 21 #[.slice A n c, .slice B n d] w fun e w' => e = .returned (.bool true) ∧ ∃ q, w' = w.drewN q := by
  have HL : Hid (l.length = n) := by show _ = _; simpa [strV] using hA.1
  have hne : ((n : Int) != (n : Int)) = false := by simp
  go_enter Tryd.func21, Tryd.ntmps21
  go_wp2_with fail
  go_loopw [5] (fun i wr => ∃ k q : Nat, k ≤ n ∧ i = .int .i64 k ∧ wr = w.drewN q) (fun i _ => n - (intOf i).toNat)
  case atStart => exact ⟨0, 0, Nat.zero_le _, rfl, rfl⟩
  case round =>
    obtain ⟨k, q, hk, rfl, rfl⟩ := hrel
    by_cases hlt : k < n
    · obtain ⟨ad, e1, hca⟩ := str_at hA hlt (by rw [HL.out]; exact hlt)
      obtain ⟨bd, e2, hcb⟩ := str_at hB hlt (by rw [HL.out]; exact hlt)
      subst e1
      subst e2
      generalize l[k]'(by rw [HL.out]; exact hlt) = s at *
      have hss := str_same s
      go_wp2
      go_quiet (fail)
      go_wp2
      refine ⟨⟨k + 1, _, by omega, by go_num, rfl⟩, ?_⟩
      simp [intOf]; omega
    · go_wp2
      go_ret
      exact ⟨rfl, _, rfl⟩

def GreatPost (w : World) (e : Ending) (w' : World) : Prop := (∃ b, e = .returned (.bool b)) ∧ w' = w
theorem greatPost_of {w : World} {b : Bool} : GreatPost w (.returned (.bool b)) w := ⟨⟨b, rfl⟩, rfl⟩
set_option maxRecDepth 100000 in
set_option maxHeartbeats 1000000 in
theorem great_any (A : Option Addr) (Ba n c : Nat) (l : List ByteArray) (w : World) (hA : Lies w Ba A n (strV l)) (hs : ∀ s ∈ l, s.size ≤ maxLen) (hn : n ≤ maxLen) :
    Calls Tryd.prog 16 #[.slice A n c] w (GreatPost w) := by
  have hl : l.length = n := by simpa [strV] using hA.1
  unfold maxLen at hn hs
  go_enter Tryd.func16, Tryd.ntmps16
  go_wp2_with fail
  go_loopw [3, 4] (fun m i wr => ∃ (k : Nat) (x : Int), k ≤ n ∧ k ≤ 6001 ∧ 0 ≤ x ∧ x ≤ 1000 * (k : Int) ∧ i = .int .i64 (k : Int) ∧ m = .int .i64 x ∧ wr = w) (fun _ i _ => 6001 - (intOf i).toNat)
  case atStart => exact ⟨0, 0, Nat.zero_le _, by omega, by omega, by omega, rfl, rfl, rfl⟩
  case round =>
    obtain ⟨k, x, hk, hk2, hx0, hx1, rfl, rfl, rfl⟩ := hrel
    by_cases hlt : k < n
    · by_cases hle : k ≤ 6000
      · obtain ⟨ad, e1, hca⟩ := str_at hA hlt (by omega)
        subst e1
        have hsz := hs (l[k]'(by omega)) (List.getElem_mem _)
        generalize l[k]'(by omega) = s at *
        clear hs
        by_cases hsm : s.size ≤ 1000
        · have hmin : min (s.size : Int) 1000 = (s.size : Int) := by omega
          go_wp2_with fail
          go_roundw
          case rel => exact ⟨k + 1, x + (s.size : Int), by omega, by omega, by omega, by omega, by go_num, by go_num, trivial⟩
          case measure => simp [intOf]; omega
        · have hmin : min (s.size : Int) 1000 = 1000 := by omega
          go_wp2_with fail
          go_roundw
          case rel => exact ⟨k + 1, x + 1000, by omega, by omega, by omega, by omega, by go_num, by go_num, trivial⟩
          case measure => simp [intOf]; omega
      · have hk6 : k = 6001 := by omega
        subst hk6
        clear hs
        by_cases hg : 6000 < n
        · go_wp2_with fail
          go_ret
          exact greatPost_of
        · exfalso
          omega
    · clear hs
      by_cases hg : 6000 < n
      · go_wp2_with fail
        go_ret
        exact greatPost_of
      · by_cases hg2 : 60000 < x
        · have hg' : n ≤ 6000 := by omega
          go_wp2_with fail
          go_ret
          exact greatPost_of
        · have hg' : n ≤ 6000 := by omega
          have hg2' : x ≤ 60000 := by omega
          go_wp2_with fail
          go_ret
          exact greatPost_of

end Go.Proofs.YtaegkpfjopajpaaDoor
