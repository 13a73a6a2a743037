/-
  The document's fence: by contract.
-/
import Derived.Test.YtleemgjbihdbgaaJoinDevRefCheckNo
import Derived.Test.YtleemgjbihdbgaaDevClone
namespace Go.Proofs.Ytleemgjbihdbgaa
open Go.RowKit
set_option linter.unusedVariables false
set_option linter.unusedSimpArgs false

def FencePost (w : World) (F : List Int) (key : Int) (e : Ending) (w' : World) : Prop := ∃ v, e = .returned v ∧ w'.ownsRow w.heap.size 3 1 v (fenceD F key).length ((fenceD F key).map (Value.int .i64)) ∧ Below w.heap.size w w'

set_option maxRecDepth 100000 in
set_option maxHeartbeats 4000000 in
theorem refFence_any (A : Option Addr) (n c : Nat) (F : List Int) (key : Int) (w : World) (hA : Lies w w.heap.size A n (F.map (Value.int .i64))) (hl : F.length = n) (hn : n ≤ 1099511627776) :
    Calls Try.prog 32 #[.slice A n c, .int .i64 key] w fun e w' => FencePost w F key e w' := by
  obtain ⟨i0, hi, hz0, hz1, hz2⟩ := info_parts infoInt
  have HL := Lib.hid hl
  clear hl
  go_enter Try.func32, Try.ntmps32
  go_wp2_with fail
  go_loopw [5, 6, 7] (fun v dd i wr => ∃ k : Nat, ∃ d : Bool, ∃ L : List Int, ∃ m : Nat, k ≤ n ∧ dd = .bool d ∧ i = .int .i64 (k : Int) ∧ wr.ownsRow w.heap.size 3 1 v m (L.map (Value.int .i64)) ∧ Below w.heap.size w wr ∧ Hid (L ++ fenceGo key (F.drop k) d = fenceD F key) ∧ m ≤ k + 1 ∧ (d = false → m ≤ k)) (fun _ _ i _ => n - (intOf i).toNat)
  case atStart => exact ⟨0, false, [], 0, Nat.zero_le _, rfl, rfl, World.ownsRow_nil _ _ _ _, Below.refl _ _, (by rfl : [] ++ fenceGo key (F.drop 0) false = fenceD F key), by omega, fun _ => Nat.le_refl _⟩
  case round =>
    obtain ⟨k, d, L, m, hk, rfl, rfl, hown, hb, HQ, hm1, hm2⟩ := hrel
    have hsz := hb.size
    by_cases hlk : k < n
    · have hin : k < F.length := by rw [HL.out]; exact hlk
      obtain ⟨ad, ea, hab, hc⟩ := int_at (hA.keep fun _ hp => hb.cell hp) hlk hin
      subst ea
      have hdr := List.drop_eq_getElem_cons hin
      obtain ⟨x, hx⟩ : ∃ x, F[k]'hin = x := ⟨_, rfl⟩
      rw [hx] at hc hdr
      have HX := Lib.hid hx
      have HQ2 : L ++ fenceGo key (x :: F.drop (k + 1)) d = fenceD F key := hdr ▸ HQ.out
      unfold fenceGo at HQ2
      have k0 : (0 : Int) ≤ (k : Int) := by omega
      have k1 : (k : Int) < (n : Int) := by omega
      clear HQ hdr hx
      by_cases hxk : x = key
      · have g1 : (x == key) = true := by simp [hxk]
        have g2 : decide (key < x) = false := decide_eq_false (by omega)
        rw [g2, g1] at HQ2
        simp only [Bool.false_and, Bool.or_true, Bool.false_eq_true, if_false] at HQ2
        have HQ3 : Hid ((L ++ [x]) ++ fenceGo key (F.drop (k + 1)) true = fenceD F key) := by show _ = _; rw [List.append_assoc]; exact HQ2
        clear HQ2 hxk
        go_wp2_with (at_builtin; refine wpList_append_own _ rfl _ _ 27 rfl w.heap.size 3 i0 (.int .i64 0) 1 8 Try.underlying27 hi hz0 hz1 hz2 rfl (by decide) _ _ _ rfl (hown.alloc _) ⟨wr.heap.size, 0, none⟩ 1 1 [_] rfl rfl (cell_new _ _ _) (one_int _ _) ?c1 ?c2 ?c3 ?_)
        case c1 => unfold maxLen; omega
        case c2 => omega
        case c3 => first | omega | (simp; omega)
        intro vc wc hoc hgc _
        have hown3 : wc.ownsRow w.heap.size 3 1 vc (m + 1) ((L ++ [x]).map (Value.int .i64)) := by
          first | (rw [List.map_append]; exact hoc) | simpa using hoc
        have hbc : Below w.heap.size w wc := (hb.alloc (by omega) _).grown hgc (by simp; omega) (fun j hj => (hown.lt j hj).1)
        have hsc := hbc.size
        clear hoc hgc hown
        go_wp2_with fail
        go_roundw
        case rel => exact ⟨k + 1, true, L ++ [x], m + 1, by omega, rfl, by go_num, hown3, hbc, HQ3, by omega, by intro h; first | (cases h; done) | omega⟩
        case measure => simp [intOf]; omega
      · have g1 : (x == key) = false := by simp [hxk]
        rw [g1] at HQ2
        simp only [Bool.or_false] at HQ2
        by_cases hlt : key < x
        · have g2 : decide (key < x) = true := decide_eq_true hlt
          rw [g2] at HQ2
          simp only [Bool.true_and] at HQ2
          cases d with
          | true =>
            simp only [Bool.not_true, Bool.false_eq_true, if_false] at HQ2
            have HQ3 : Hid ((L ++ [x]) ++ fenceGo key (F.drop (k + 1)) true = fenceD F key) := by show _ = _; rw [List.append_assoc]; exact HQ2
            clear HQ2 hxk hlt
            go_wp2_with (at_builtin; refine wpList_append_own _ rfl _ _ 27 rfl w.heap.size 3 i0 (.int .i64 0) 1 8 Try.underlying27 hi hz0 hz1 hz2 rfl (by decide) _ _ _ rfl (hown.alloc _) ⟨wr.heap.size, 0, none⟩ 1 1 [_] rfl rfl (cell_new _ _ _) (one_int _ _) ?c1 ?c2 ?c3 ?_)
            case c1 => unfold maxLen; omega
            case c2 => omega
            case c3 => first | omega | (simp; omega)
            intro vc wc hoc hgc _
            have hown3 : wc.ownsRow w.heap.size 3 1 vc (m + 1) ((L ++ [x]).map (Value.int .i64)) := by
              first | (rw [List.map_append]; exact hoc) | simpa using hoc
            have hbc : Below w.heap.size w wc := (hb.alloc (by omega) _).grown hgc (by simp; omega) (fun j hj => (hown.lt j hj).1)
            have hsc := hbc.size
            clear hoc hgc hown
            go_wp2_with fail
            go_roundw
            case rel => exact ⟨k + 1, true, L ++ [x], m + 1, by omega, rfl, by go_num, hown3, hbc, HQ3, by omega, by intro h; first | (cases h; done) | omega⟩
            case measure => simp [intOf]; omega
          | false =>
            have hm3 := hm2 rfl
            simp only [Bool.not_false, if_true] at HQ2
            have HQ3 : Hid (((L ++ [key]) ++ [x]) ++ fenceGo key (F.drop (k + 1)) true = fenceD F key) := by show _ = _; rw [List.append_assoc, List.append_assoc]; exact HQ2
            clear HQ2 hxk hlt hm2
            go_wp2_with (at_builtin; refine wpList_append_own _ rfl _ _ 27 rfl w.heap.size 3 i0 (.int .i64 0) 1 8 Try.underlying27 hi hz0 hz1 hz2 rfl (by decide) _ _ _ rfl (hown.alloc _) ⟨wr.heap.size, 0, none⟩ 1 1 [_] rfl rfl (cell_new _ _ _) (one_int _ _) ?a1 ?a2 ?a3 ?_)
            case a1 => unfold maxLen; omega
            case a2 => omega
            case a3 => first | omega | (simp; omega)
            intro va wa hoa hga _
            have hown2 : wa.ownsRow w.heap.size 3 1 va (m + 1) ((L ++ [key]).map (Value.int .i64)) := by
              first | (rw [List.map_append]; exact hoa) | simpa using hoa
            have hba : Below w.heap.size w wa := (hb.alloc (by omega) _).grown hga (by simp; omega) (fun j hj => (hown.lt j hj).1)
            have hsa := hba.size
            clear hoa hga hown
            have hcb : wa.cell? (ad.add k) = some (.int .i64 x) := by
              obtain ⟨ad2, ea, _, h⟩ := int_at (hA.keep fun _ hp => hba.cell hp) hlk hin
              injection ea with ea
              subst ea
              exact h.trans (by rw [HX.out])
            go_wp2_with (at_builtin; refine wpList_append_own _ rfl _ _ 27 rfl w.heap.size 3 i0 (.int .i64 0) 1 8 Try.underlying27 hi hz0 hz1 hz2 rfl (by decide) _ _ _ rfl (hown2.alloc _) ⟨wa.heap.size, 0, none⟩ 1 1 [_] rfl rfl (cell_new _ _ _) (one_int _ _) ?c1 ?c2 ?c3 ?_)
            case c1 => unfold maxLen; omega
            case c2 => omega
            case c3 => first | omega | (simp; omega)
            intro vc wc hoc hgc _
            have hown3 : wc.ownsRow w.heap.size 3 1 vc ((m + 1) + 1) (((L ++ [key]) ++ [x]).map (Value.int .i64)) := by
              first | (rw [List.map_append]; exact hoc) | simpa using hoc
            have hbc : Below w.heap.size w wc := (hba.alloc (by omega) _).grown hgc (by simp; omega) (fun j hj => (hown2.lt j hj).1)
            have hsc := hbc.size
            clear hoc hgc hown2
            go_wp2_with fail
            go_roundw
            case rel => exact ⟨k + 1, true, (L ++ [key]) ++ [x], m + 1 + 1, by omega, rfl, by go_num, hown3, hbc, HQ3, by omega, by intro h; first | (cases h; done) | omega⟩
            case measure => simp [intOf]; omega
        · have g2 : decide (key < x) = false := decide_eq_false hlt
          rw [g2] at HQ2
          simp only [Bool.false_and, Bool.false_eq_true, if_false] at HQ2
          have HQ3 : Hid ((L ++ [x]) ++ fenceGo key (F.drop (k + 1)) d = fenceD F key) := by show _ = _; rw [List.append_assoc]; exact HQ2
          clear HQ2 hxk hlt
          go_wp2_with (at_builtin; refine wpList_append_own _ rfl _ _ 27 rfl w.heap.size 3 i0 (.int .i64 0) 1 8 Try.underlying27 hi hz0 hz1 hz2 rfl (by decide) _ _ _ rfl (hown.alloc _) ⟨wr.heap.size, 0, none⟩ 1 1 [_] rfl rfl (cell_new _ _ _) (one_int _ _) ?c1 ?c2 ?c3 ?_)
          case c1 => unfold maxLen; omega
          case c2 => omega
          case c3 => first | omega | (simp; omega)
          intro vc wc hoc hgc _
          have hown3 : wc.ownsRow w.heap.size 3 1 vc (m + 1) ((L ++ [x]).map (Value.int .i64)) := by
            first | (rw [List.map_append]; exact hoc) | simpa using hoc
          have hbc : Below w.heap.size w wc := (hb.alloc (by omega) _).grown hgc (by simp; omega) (fun j hj => (hown.lt j hj).1)
          have hsc := hbc.size
          clear hoc hgc hown
          go_wp2_with fail
          go_roundw
          case rel => exact ⟨k + 1, d, L ++ [x], m + 1, by omega, rfl, by go_num, hown3, hbc, HQ3, by omega, fun h => by have := hm2 h; omega⟩
          case measure => simp [intOf]; omega
    · have hkn : k = n := by omega
      have HQ2 : L ++ fenceGo key [] d = fenceD F key := by
        have h := HQ.out
        rwa [List.drop_eq_nil_of_le (by rw [HL.out]; omega)] at h
      clear HQ
      cases d with
      | true =>
        have HQ3 : Hid (L = fenceD F key) := by show _ = _; simpa [fenceGo] using HQ2
        have hml : L.length = m := by have := hown.1; simpa using this
        clear HQ2
        go_wp2_with fail
        go_ret
        exact ⟨_, rfl, by rw [← HQ3.out, hml]; exact hown, hb⟩
      | false =>
        have HQ3 : Hid (L ++ [key] = fenceD F key) := by show _ = _; simpa [fenceGo] using HQ2
        clear HQ2
        go_wp2_with (at_builtin; refine wpList_append_own _ rfl _ _ 27 rfl w.heap.size 3 i0 (.int .i64 0) 1 8 Try.underlying27 hi hz0 hz1 hz2 rfl (by decide) _ _ _ rfl (hown.alloc _) ⟨wr.heap.size, 0, none⟩ 1 1 [_] rfl rfl (cell_new _ _ _) (one_int _ _) ?c1 ?c2 ?c3 ?_)
        case c1 => unfold maxLen; omega
        case c2 => omega
        case c3 => first | omega | (simp; omega)
        intro vc wc hoc hgc _
        have hown3 : wc.ownsRow w.heap.size 3 1 vc (m + 1) ((L ++ [key]).map (Value.int .i64)) := by
          first | (rw [List.map_append]; exact hoc) | simpa using hoc
        have hbc : Below w.heap.size w wc := (hb.alloc (by omega) _).grown hgc (by simp; omega) (fun j hj => (hown.lt j hj).1)
        have hsc := hbc.size
        clear hoc hgc hown
        have hml : (L ++ [key]).length = m + 1 := by have := hown3.1; simpa using this
        go_wp2_with fail
        go_ret
        exact ⟨_, rfl, by rw [← HQ3.out, hml]; exact hown3, hbc⟩

end Go.Proofs.Ytleemgjbihdbgaa
