/-
  What the document says of three sectors.
-/
import Derived.Test.YtjdacpnfgpdjhaaDoorDecProg
namespace Go.Proofs.YtjdacpnfgpdjhaaDoor
open Go.RowKit
set_option linter.unusedVariables false
set_option linter.unusedSimpArgs false

theorem dv_text {c : CmdM} (h : cMay c = true) : dV (cmS c) = dSec (cText c) ∧ dE (cmS c) = 0 := by
  rw [(cm_yes h).1]
  exact dV_yes (cText_back h).1
set_option maxRecDepth 100000 in
set_option maxHeartbeats 1000000 in
theorem dsector_any (b : Int) (w : World) (hb : cMay ⟨0, b, 1, 0, 0, 0, 0, 0⟩ = true) (ht : TabOk w) :
    Calls Tryd.prog 22 #[.int .i64 b] w fun e w' => e = .returned (.string (dSec (cText ⟨0, b, 1, 0, 0, 0, 0, 0⟩))) ∧ Below w.heap.size w w' := by
  have HV := Lib.hid (dv_text hb)
  have HZ : Hid ((cmS ⟨0, b, 1, 0, 0, 0, 0, 0⟩).size ≤ 17592186044416) := by
    show _ ≤ _
    rw [cm_size hb]
    exact Nat.le_trans (show cLen (0 : Int) ≤ 100 by decide) (by omega)
  have HT : Hid (∀ W, Below w.heap.size w W → TabOk W) := fun W h => ht.below h
  clear hb ht
  go_enter Tryd.func22, Tryd.ntmps22
  go_wp2_with fail
  refine (cBytes_any 0 b 1 0 0 0 0 0 _).mono ?_
  rintro e w1 ⟨rfl, hb1⟩
  obtain ⟨S, hS⟩ : ∃ S, cmS ⟨0, b, 1, 0, 0, 0, 0, 0⟩ = S := ⟨_, rfl⟩
  rw [hS] at HV HZ ⊢
  clear hS
  go_wp2_with fail
  refine (dBytes_any S _ HZ.out (HT.out _ hb1)).mono ?_
  rintro e w2 ⟨rfl, hb2⟩
  rw [HV.out.1]
  have b2 := below_then hb1 hb2
  clear hb1 hb2
  go_wp2_with fail
  go_ret
  exact ⟨rfl, b2⟩

theorem dw_may17 : cMay ⟨0, 17, 1, 0, 0, 0, 0, 0⟩ = true := by decide
theorem dw_may18 : cMay ⟨0, 18, 1, 0, 0, 0, 0, 0⟩ = true := by decide
/-- Of the three sectors the document tells just one command; of a mount and one byte it tells a fault. -/
theorem dw_rows : rowO [dSec (cText ⟨0, 17, 1, 0, 0, 0, 0, 0⟩), ⟨#[]⟩, dSec (cText ⟨0, 18, 1, 0, 0, 0, 0, 0⟩)] = some [⟨0, 17, 1, 0, 0, 0, 0, 0⟩]
    ∧ rowO [dSec (cText ⟨0, 17, 1, 0, 0, 0, 0, 0⟩), ⟨#[120]⟩] = none := by
  refine ⟨row_front (l := [⟨0, 17, 1, 0, 0, 0, 0, 0⟩]) (fun c hc => by rw [List.mem_singleton.1 hc]; exact dw_may17) [dSec (cText ⟨0, 18, 1, 0, 0, 0, 0, 0⟩)], ?_⟩
  refine rowO_bad (k := 1) (by simp) (fun i hi h1 => ?_) (by intro h; exact absurd (congrArg ByteArray.size h) (by decide)) ?_
  · obtain rfl : i = 0 := by omega
    exact (dec_sec (cText_back dw_may17).1).1
  · cases h : dRd ⟨#[120]⟩ with
    | false => exact h
    | true =>
      obtain ⟨h1, h2⟩ := sec_dec h
      have h3 := (dSec_size h1).1
      rw [h2] at h3
      exact absurd h3 (by decide)
theorem dw_small {b : Int} (h : cMay ⟨0, b, 1, 0, 0, 0, 0, 0⟩ = true) : (dSec (cText ⟨0, b, 1, 0, 0, 0, 0, 0⟩)).size ≤ maxLen := by
  have := (dSec_size (cText_back h).1).2
  unfold maxLen
  omega
set_option maxRecDepth 100000 in
set_option maxHeartbeats 2000000 in
theorem dwakes_any (w : World) (ht : TabOk w) : Calls Tryd.prog 7 #[] w fun e w' => e = .returned (.bool true) ∧ Below w.heap.size w w' := by
  have HT : Hid (∀ W, Below w.heap.size w W → TabOk W) := fun W h => ht.below h
  have HR := Lib.hid dw_rows
  have HA := Lib.hid (dw_small dw_may17)
  have HB := Lib.hid (dw_small dw_may18)
  have h17 := fun w ht => dsector_any 17 w dw_may17 ht
  have h18 := fun w ht => dsector_any 18 w dw_may18 ht
  obtain ⟨TA, hTA⟩ : ∃ S, dSec (cText ⟨0, 17, 1, 0, 0, 0, 0, 0⟩) = S := ⟨_, rfl⟩
  obtain ⟨TB, hTB⟩ : ∃ S, dSec (cText ⟨0, 18, 1, 0, 0, 0, 0, 0⟩) = S := ⟨_, rfl⟩
  rw [hTA, hTB] at HR
  rw [hTA] at HA
  rw [hTB] at HB
  simp only [hTA] at h17
  simp only [hTB] at h18
  clear hTA hTB
  have ht0 := ht
  clear ht
  go_enter Tryd.func7, Tryd.ntmps7
  go_wp2_with fail
  refine (h17 _ ht0).mono ?_
  rintro e w1 ⟨rfl, hb1⟩
  go_wp2_with fail
  refine (h18 _ (HT.out _ hb1)).mono ?_
  rintro e w2 ⟨rfl, hb2⟩
  have b2 := below_then hb1 hb2
  clear hb1 hb2
  go_wp2_with fail
  have b3 : Below w.heap.size w (w2.alloc (.cells #[.string TA, .string ⟨#[]⟩, .string TB] 9)) := b2.alloc b2.size _
  refine (dRow_any _ 3 3 [TA, ⟨#[]⟩, TB] _ (lies_new w2 #[.string TA, .string ⟨#[]⟩, .string TB] 9 (0, 0)) (by decide) ?_ (HT.out _ b3)).mono ?_
  · intro s hs
    simp only [List.mem_cons, List.not_mem_nil, or_false] at hs
    rcases hs with rfl | rfl | rfl
    · exact HA.out
    · decide
    · exact HB.out
  rintro e w4 ⟨h4, hb4⟩
  rcases h4 with ⟨h4, _⟩ | ⟨m, v, h4, rfl, own⟩
  · rw [HR.out.1] at h4
    cases h4
  rw [HR.out.1] at h4
  injection h4 with h4
  subst h4
  obtain ⟨A4, c4, e4, _, _⟩ := ow_shape own
  subst e4
  have b4 := below_then b3 hb4
  have hl : LiesC w4 w4.heap.size A4 1 [⟨0, 17, 1, 0, 0, 0, 0, 0⟩] := ⟨rfl, ow_lies own⟩
  clear own hb4 b3 b2
  rw [show ([⟨0, 17, 1, 0, 0, 0, 0, 0⟩] : List CmdM).length = 1 from rfl]
  go_wp2_with fail
  refine (h17 _ (HT.out _ b4)).mono ?_
  rintro e w5 ⟨rfl, hb5⟩
  have hl5 := hl.below hb5
  have b5 := below_then b4 hb5
  clear hl hb5 b4
  go_wp2_with fail
  have hx6 := (Below.refl w5.heap.size w5).alloc (Nat.le_refl _) (.cells #[.string TA, .string ⟨#[120]⟩] 9)
  have hl6 := hl5.below hx6
  have b6 := below_then b5 hx6
  refine (dRow_any _ 2 2 [TA, ⟨#[120]⟩] _ (lies_new w5 #[.string TA, .string ⟨#[120]⟩] 9 (0, 0)) (by decide) ?_ (HT.out _ b6)).mono ?_
  · intro s hs
    simp only [List.mem_cons, List.not_mem_nil, or_false] at hs
    rcases hs with rfl | rfl
    · exact HA.out
    · decide
  rintro e w7 ⟨h7, hb7⟩
  rcases h7 with ⟨_, rfl⟩ | ⟨m, v, h7, _⟩
  rotate_left
  · rw [HR.out.2] at h7
    cases h7
  have hl7 := hl6.below hb7
  have b7 := below_then b6 hb7
  clear hl5 hl6 b5 b6 hx6 hb7
  go_wp2_with fail
  refine (dRead_any ⟨#[]⟩ _ (by decide) (HT.out _ b7)).mono ?_
  rintro e w8 ⟨rfl, hb8⟩
  obtain ⟨e1, e2, e3, e4⟩ := dr_none (s := ⟨#[]⟩) rfl
  rw [e1, e2, e3, e4]
  clear e1 e2 e3 e4
  have hl8 := hl7.below hb8
  have b8 := below_then b7 hb8
  clear hl7 b7 hb8
  rw [show cmdA zeroC = #[.int .i8 0, .int .i64 0, .int .i64 0, .int .i64 0, .int .i64 0, .int .i64 0, .int .i64 0, .int .i8 0] from rfl]
  have hx9 := (Below.refl w8.heap.size w8).alloc (Nat.le_refl _) (.cells #[.int .i8 0, .int .i64 0, .int .i64 0, .int .i64 0, .int .i64 0, .int .i64 0, .int .i64 0, .int .i8 0] 32)
  have hl9 := hl8.below hx9
  have b9 := below_then b8 hx9
  obtain ⟨ad, e9, had, c0, c1, _⟩ := cmd_at hl9 (i := 0) (by decide) (by decide) rfl
  subst e9
  obtain ⟨q, hq⟩ : ∃ q, ad.add (0 * 8) = q := ⟨_, rfl⟩
  have eq : ad = q := by rw [← hq]; rfl
  rw [hq] at c1
  subst eq
  clear hl8 b8 hl9 hx9 c0 hq
  go_wp2_with fail
  go_ret
  exact ⟨rfl, b9⟩
end Go.Proofs.YtjdacpnfgpdjhaaDoor
