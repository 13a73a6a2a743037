/-
  How many bytes a row of texts has, the program's way and the document's; the small geometry; what the document says of it.
-/
import Derived.Test.YtcgifdmjmkfkpaaGeoWhat
import Derived.Test.YtcgifdmjmkfkpaaGeoRefWhat
import Derived.Test.YtcgifdmjmkfkpaaMem
namespace Go.Proofs.Ytcgifdmjmkfkpaa
open Go.RowKit
set_option linter.unusedVariables false
set_option linter.unusedSimpArgs false

/-- The sum of the texts' lengths, as an int is added up. -/
def sumW (l : List ByteArray) : Int := l.foldl (fun a s => wrap64 (a + (s.size : Int))) 0
theorem sumW_take {l : List ByteArray} {k : Nat} (h : k < l.length) : sumW (l.take (k + 1)) = wrap64 (sumW (l.take k) + (l[k].size : Int)) := by
  rw [List.take_succ_eq_append_getElem h, sumW, List.foldl_append]
  rfl

/-- A row of texts. -/
def strV (ss : List ByteArray) : List Value := ss.map Value.string

theorem str_at {w : World} {B n : Nat} {A : Option Addr} {ss : List ByteArray} (h : Lies w B A n (strV ss)) {k : Nat} (hk : k < n) (hl : k < ss.length) :
    ∃ ad : Addr, A = some ad ∧ w.cell? (ad.add k) = some (.string ss[k]) := by
  obtain ⟨ad, u, hA, _, hu, hc⟩ := h.at_ hk
  refine ⟨ad, hA, ?_⟩
  rw [hc, ← hu, strV, List.getElem?_map, List.getElem?_eq_getElem hl]
  rfl

theorem bytes_g (A : Option Addr) (n c B : Nat) (ss : List ByteArray) (w : World) (hA : Lies w B A n (strV ss)) (hn : n ≤ 100) (hs : ∀ s ∈ ss, s.size ≤ maxLen) :
    Calls Try.prog 28 #[.slice A n c] w fun e w' => e = .returned (.int .i64 (sumW ss)) ∧ w = w' := by
  have hlen : ss.length = n := by simpa [strV] using hA.1
  have HLen := Lib.hid hlen
  have HS := Lib.hid hs
  have HA := Lib.hid hA
  clear hlen hs hA
  go_enter Try.func28, Try.ntmps28
  go_wp2
  go_loop [3, 8] (fun v i => ∃ k : Nat, k ≤ n ∧ i = .int .i64 k ∧ v = .int .i64 (sumW (ss.take k))) (fun _ i => n - (intOf i).toNat)
  case atStart => exact ⟨0, Nat.zero_le _, rfl, rfl⟩
  case round =>
    obtain ⟨k, hk, rfl, rfl⟩ := hrel
    by_cases hlt : k < n
    · have hkl : k < ss.length := by rw [HLen.out]; exact hlt
      obtain ⟨ad, rfl, hc⟩ := str_at HA.out hlt hkl
      have hb2 := HS.out ss[k] (List.getElem_mem hkl)
      have HT := Lib.hid (sumW_take hkl)
      unfold maxLen at hb2
      generalize sumW (ss.take k) = q at *
      generalize ss[k] = t at *
      go_wp2
      go_round
      case rel => exact ⟨k + 1, by omega, by go_num, by rw [HT.out]⟩
      case measure => simp [intOf]; omega
    · have hkn : k = n := by omega
      subst hkn
      go_wp2
      go_ret
      exact ⟨ret_int (by rw [List.take_of_length_le (by rw [HLen.out]; omega)]), rfl⟩

theorem bytes_r (A : Option Addr) (n c B : Nat) (ss : List ByteArray) (w : World) (hA : Lies w B A n (strV ss)) (hn : n ≤ 100) (hs : ∀ s ∈ ss, s.size ≤ maxLen) :
    Calls Try.prog 29 #[.slice A n c] w fun e w' => e = .returned (.int .i64 (sumW ss)) ∧ w = w' := by
  have hlen : ss.length = n := by simpa [strV] using hA.1
  have HLen := Lib.hid hlen
  have HS := Lib.hid hs
  have HA := Lib.hid hA
  clear hlen hs hA
  go_enter Try.func29, Try.ntmps29
  go_wp2
  go_loop [3, 4] (fun v i => ∃ k : Nat, k ≤ n ∧ i = .int .i64 k ∧ v = .int .i64 (sumW (ss.take k))) (fun _ i => n - (intOf i).toNat)
  case atStart => exact ⟨0, Nat.zero_le _, rfl, rfl⟩
  case round =>
    obtain ⟨k, hk, rfl, rfl⟩ := hrel
    by_cases hlt : k < n
    · have hkl : k < ss.length := by rw [HLen.out]; exact hlt
      obtain ⟨ad, rfl, hc⟩ := str_at HA.out hlt hkl
      have hb2 := HS.out ss[k] (List.getElem_mem hkl)
      have HT := Lib.hid (sumW_take hkl)
      unfold maxLen at hb2
      generalize sumW (ss.take k) = q at *
      generalize ss[k] = t at *
      go_wp2
      go_round
      case rel => exact ⟨k + 1, by omega, by go_num, by rw [HT.out]⟩
      case measure => simp [intOf]; omega
    · have hkn : k = n := by omega
      subst hkn
      go_wp2
      go_ret
      exact ⟨ret_int (by rw [List.take_of_length_le (by rw [HLen.out]; omega)]), rfl⟩

/-! ### The small geometry -/
def g0 : G := ⟨2, 1, 1, 1, 3, 8, 1, 2⟩
theorem small_any (w : World) :
    Calls Try.prog 38 #[] w fun e w' => e = .returned (.agg #[.int .i64 2, .int .i64 1, .int .i64 1, .int .i64 1, .int .i64 3, .int .i64 8, .int .i64 1, .int .i64 2]) ∧ Below w.heap.size w w' := by
  go_enter Try.func38, Try.ntmps38
  go_wp2
  exact bodyPost_ret (v := .agg #[.int .i64 2, .int .i64 1, .int .i64 1, .int .i64 1, .int .i64 3, .int .i64 8, .int .i64 1, .int .i64 2]) (by simp [results, Try.results38, go_sem]) rfl ⟨rfl, (Below.refl _ _).alloc (Nat.le_refl _) _⟩

theorem small_may : mayG g0 = true := by decide +kernel
theorem small_total : totalV g0 = 18 := by decide +kernel
theorem small_lease : leaseV g0 1 = 2 := by decide +kernel
theorem small_paxos : paxosV g0 0 = 3 := by decide +kernel
theorem small_log : logV g0 0 = 5 := by decide +kernel
theorem small_head : headV g0 0 = 13 := by decide +kernel
theorem small_journal : journalV g0 0 4 = 15 := by decide +kernel
theorem small_data : dataV g0 0 0 = 17 := by decide +kernel
theorem small_what : whatV g0 15 = ⟨6, 0, 1⟩ := by
  have h : ((whatV g0 15).k = 6 ∧ (whatV g0 15).a = 0) ∧ (whatV g0 15).b = 1 := by decide +kernel
  generalize whatV g0 15 = q at h
  cases q
  simp_all

theorem two_at (w : World) (a b : ByteArray) (T : TypeId) : ∀ j u, (strV [a, b])[j]? = some u → (w.alloc (.cells #[.string a, .string b] T)).cell? ((⟨w.heap.size, 0, none⟩ : Addr).add j) = some u := by
  intro j u hj
  rw [show (⟨w.heap.size, 0, none⟩ : Addr).add j = ⟨w.heap.size, j, none⟩ by rw [Addr.add_mid, Nat.zero_add]]
  exact (Blk.new w #[.string a, .string b] T).cell j u (by simpa [strV] using hj)
theorem two_small : ∀ s ∈ [ByteArray.mk #[97, 98], ByteArray.mk #[99]], s.size ≤ maxLen := by
  intro s hs
  simp at hs
  rcases hs with rfl | rfl <;> decide +kernel
theorem two_sum : sumW [ByteArray.mk #[97, 98], ByteArray.mk #[99]] = 3 := by decide +kernel

set_option maxRecDepth 100000 in
set_option maxHeartbeats 1000000 in
theorem wakes_any (w : World) :
    Calls Try.prog 25 #[] w fun e w' => e = .returned (.bool true) ∧ Below w.heap.size w w' := by
  go_enter Try.func25, Try.ntmps25
  go_wp2_with fail
  refine (small_any _).mono ?_
  rintro e w1 ⟨rfl, hb1⟩
  go_wp2_with fail
  refine (what_g g0 15 _).mono ?_
  rintro e w2 ⟨rfl, hb2⟩
  rw [small_what]
  have hb := below_then hb1 hb2
  clear hb1 hb2
  go_wp2_with fail
  refine (small_any _).mono ?_
  rintro e w1 ⟨rfl, hb1⟩
  go_wp2_with fail
  refine (may_any g0 _).mono ?_
  rintro e w2 ⟨rfl, hb2⟩
  rw [small_may]
  replace hb := below_then (below_then hb hb1) hb2
  clear hb1 hb2
  go_wp2_with fail
  refine (small_any _).mono ?_
  rintro e w1 ⟨rfl, hb1⟩
  go_wp2_with fail
  refine (total_g g0 _).mono ?_
  rintro e w2 ⟨rfl, hb2⟩
  rw [small_total]
  replace hb := below_then (below_then hb hb1) hb2
  clear hb1 hb2
  go_wp2_with fail
  refine (small_any _).mono ?_
  rintro e w1 ⟨rfl, hb1⟩
  go_wp2_with fail
  refine (lease_g g0 1 _).mono ?_
  rintro e w2 ⟨rfl, hb2⟩
  rw [small_lease]
  replace hb := below_then (below_then hb hb1) hb2
  clear hb1 hb2
  go_wp2_with fail
  refine (small_any _).mono ?_
  rintro e w1 ⟨rfl, hb1⟩
  go_wp2_with fail
  refine (paxos_g g0 0 _).mono ?_
  rintro e w2 ⟨rfl, hb2⟩
  rw [small_paxos]
  replace hb := below_then (below_then hb hb1) hb2
  clear hb1 hb2
  go_wp2_with fail
  refine (small_any _).mono ?_
  rintro e w1 ⟨rfl, hb1⟩
  go_wp2_with fail
  refine (log_g g0 0 _).mono ?_
  rintro e w2 ⟨rfl, hb2⟩
  rw [small_log]
  replace hb := below_then (below_then hb hb1) hb2
  clear hb1 hb2
  go_wp2_with fail
  refine (small_any _).mono ?_
  rintro e w1 ⟨rfl, hb1⟩
  go_wp2_with fail
  refine (head_g g0 0 _).mono ?_
  rintro e w2 ⟨rfl, hb2⟩
  rw [small_head]
  replace hb := below_then (below_then hb hb1) hb2
  clear hb1 hb2
  go_wp2_with fail
  refine (small_any _).mono ?_
  rintro e w1 ⟨rfl, hb1⟩
  go_wp2_with fail
  refine (journal_g g0 0 4 (by omega) _).mono ?_
  rintro e w2 ⟨rfl, hb2⟩
  rw [small_journal]
  replace hb := below_then (below_then hb hb1) hb2
  clear hb1 hb2
  go_wp2_with fail
  refine (small_any _).mono ?_
  rintro e w1 ⟨rfl, hb1⟩
  go_wp2_with fail
  refine (data_g g0 0 0 _).mono ?_
  rintro e w2 ⟨rfl, hb2⟩
  rw [small_data]
  replace hb := below_then (below_then hb hb1) hb2
  clear hb1 hb2
  go_wp2_with fail
  refine (bytes_g _ 2 2 (w2.heap.size + 1) [ByteArray.mk #[97, 98], ByteArray.mk #[99]] _ ⟨rfl, fun _ => ⟨_, rfl, Nat.lt_succ_self _, two_at w2 _ _ _⟩⟩ (by omega) two_small).mono ?_
  rintro e w3 ⟨rfl, rfl⟩
  rw [two_sum]
  go_wp2_with fail
  go_ret
  exact ⟨rfl, hb.trans (((Below.refl _ _).alloc (Nat.le_refl _) _).mono hb.size)⟩

end Go.Proofs.Ytcgifdmjmkfkpaa
