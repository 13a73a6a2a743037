/-
  The statement CrcBoth: the sum of two rows of bytes comes of their sums, and of the first one's and the second one's bytes: for all rows the call answers true and leaves them as they were. No conditions; the listed table is tied to the program's text.
-/
import Derived.Test.YtjangncdnofimaaDoorCrcLaid
import Derived.ShutString
import Derived.ChangeOld
namespace Go.Proofs.YtjangncdnofimaaDoor.crcBoth
open Go.ChangeShapes Go.WideShapes Go.ChangeAt Go.RowKit
open Go.ChangeMaps (open_string shut_string)
set_option linter.unusedVariables false
set_option linter.unusedSimpArgs false

theorem both_eq {l m : List Nat} {n : Nat} (hl : Bytes l) (hm : Bytes m) (hn : m.length = n) : movedBy false ((sumS l : Nat) : Int) (n : Int) ^^^ r32 ((sumS m : Nat) : Int) = sumS (l ++ m) := by
  unfold movedBy
  rw [r32_nat (show sumS l < 4294967296 from addS_lt (by omega) hl), r32_nat (show sumS m < 4294967296 from addS_lt (by omega) hm), ← both_sum, hn]
  rfl
theorem added_sum {l m : List Nat} (hl : Bytes l) : added ((sumS l : Nat) : Int) m = sumS (l ++ m) := by
  unfold added
  rw [r32_nat (show sumS l < 4294967296 from addS_lt (by omega) hl)]
  exact addS_addS 0 l m

set_option maxRecDepth 100000 in
set_option maxHeartbeats 1000000 in
theorem walk (a0 : Option Addr) (len0 cap0 : Nat) (z0 : List Int) (a1 : Option Addr) (len1 cap1 : Nat) (z1 : List Int) (w : World) (w0 : IsRow .u8 w a0 len0 cap0 z0) (w1 : IsRow .u8 w a1 len1 cap1 z1) (ht : TabOk w) :
    Calls Tryd.prog 4 #[.slice a0 len0 cap0, .slice a1 len1 cap1] w fun e w' => e = .returned (.bool true) ∧ Below w.heap.size w w' := by
  obtain ⟨l, hl, hlb, hll, hlm⟩ := bytes_of_row w0
  obtain ⟨m, hm, hmb, hml, hmm⟩ := bytes_of_row w1
  have HLL := Lib.hid hll
  have HML := Lib.hid hml
  obtain ⟨i0, hi, hz0, hz1, hz2⟩ := info_parts infoByte
  clear w0 w1 hll hml
  by_cases hg0 : len0 ≤ 2000
  · by_cases hg1 : len1 ≤ 2000
    · have hbe : Below w.heap.size w (w.alloc (.cells #[] 5)) := (Below.refl _ _).alloc (Nat.le_refl _) _
      have hla := hl.below hbe
      go_enter Tryd.func4, Tryd.ntmps4
      go_wp2_with (at_builtin; refine wpList_append_lies rfl (.tmp 15) (.tmp 16) 22 rfl w.heap.size 5 i0 (.int .u8 0) 1 Tryd.underlying22 hi hz0 hz1 hz2 rfl _ 0 [] rfl (World.ownsRow_made w #[] 0 (Nat.le_refl _) (by decide) rfl) w.heap.size a0 len0 cap0 (bv l) rfl hla (bv_one _) ?c1 ?c2 ?c3 ?_)
      case c1 => unfold maxLen; omega
      case c2 => omega
      case c3 => simp
      intro v3 w3 hown3 hg3
      have hb3 : Below w.heap.size w w3 := hbe.grown hg3 (by simp) (fun j hj => by simp [Value.ownBlock] at hj; omega)
      have hma := hm.below hb3
      clear hg3 hla hbe
      go_wp2_with (at_builtin; refine wpList_append_lies rfl (.tmp 17) (.tmp 18) 22 rfl w.heap.size 5 i0 (.int .u8 0) 1 Tryd.underlying22 hi hz0 hz1 hz2 rfl _ _ _ rfl hown3 w.heap.size a1 len1 cap1 (bv m) rfl hma (bv_one _) ?d1 ?d2 ?d3 ?_)
      case d1 => unfold maxLen; omega
      case d2 => omega
      case d3 => exact hb3.size
      intro v4 w4 hown4 hg4
      have hb4 : Below w.heap.size w w4 := hb3.grown hg4 hb3.size (fun j hj => (hown3.lt j hj).1)
      obtain ⟨A4, c4, rfl⟩ := own_shape hown4
      have hl4 : Lies w4 w4.heap.size A4 (len0 + len1) (bv (l ++ m)) := by
        rw [bv_append]
        exact Lies.of_own hown4
      have ht4 := ht.below hb4
      have hs4 := hb4.size
      clear hg4 hown4 hown3 hb3 hma
      go_wp2_with fail
      refine (Sum_any (len0 + len1) c4 A4 (l ++ m) w4 ht4 hl4 (hlb.append hmb) (by omega)).mono ?_
      rintro e w5 ⟨rfl, hb5⟩
      have hb05 := hb4.trans (hb5.mono hs4)
      have hls := (hl.below hb05).more hb05.size
      have ht5 := ht.below hb05
      clear hb4 hb5 hl4 ht4 hs4
      go_wp2_with fail
      refine (Sum_any len0 cap0 a0 l w5 ht5 hls hlb hlm).mono ?_
      rintro e w6 ⟨rfl, hb6⟩
      have hb06 := hb05.trans (hb6.mono hb05.size)
      have hms := (hm.below hb06).more hb06.size
      have ht6 := ht.below hb06
      clear hb05 hb6 hls ht5
      go_wp2_with fail
      refine (Sum_any len1 cap1 a1 m w6 ht6 hms hmb hmm).mono ?_
      rintro e w7 ⟨rfl, hb7⟩
      have hb07 := hb06.trans (hb7.mono hb06.size)
      clear hb06 hb7 hms ht6
      go_wp2_with fail
      refine (Both_any _ _ _ w7 (by omega)).mono ?_
      rintro e w8 ⟨rfl, hb8⟩
      rw [both_eq hlb hmb HML.out]
      have hb08 := hb07.trans (hb8.mono hb07.size)
      have hls := (hl.below hb08).more hb08.size
      have ht8 := ht.below hb08
      clear hb07 hb8
      go_wp2_with fail
      refine (Sum_any len0 cap0 a0 l w8 ht8 hls hlb hlm).mono ?_
      rintro e w9 ⟨rfl, hb9⟩
      have hb09 := hb08.trans (hb9.mono hb08.size)
      have hms := (hm.below hb09).more hb09.size
      have ht9 := ht.below hb09
      have hsl : sumS l < 4294967296 := addS_lt (by omega) hlb
      clear hb08 hb9 hls ht8
      go_wp2_with fail
      refine (Add_any _ 0 len1 cap1 a1 m w9 (by omega) (by omega) ht9 hms hmb hmm).mono ?_
      rintro e w10 ⟨rfl, hb10⟩
      rw [added_sum hlb]
      have hb010 := hb09.trans (hb10.mono hb09.size)
      have ht10 := ht.below hb010
      have hall : sumS (l ++ m) < 4294967296 := addS_lt (by omega) (hlb.append hmb)
      have d1 : decide ((0 : Int) ≤ ((sumS (l ++ m) : Nat) : Int)) = true := by simp
      have d2 : decide (((sumS (l ++ m) : Nat) : Int) < 4294967296) = true := decide_eq_true (by omega)
      clear hb09 hb10 hms ht9 hsl hall
      go_wp2_with fail
      refine (wakes_any _ ht10).mono ?_
      rintro e w11 ⟨rfl, hb11⟩
      go_wp2_with fail
      go_ret
      exact ⟨rfl, hb010.trans (hb11.mono hb010.size)⟩
    · go_enter Tryd.func4, Tryd.ntmps4
      go_wp2_with fail
      refine (wakes_any _ ht).mono ?_
      rintro e w6 ⟨rfl, hb6⟩
      go_wp2_with fail
      go_ret
      exact ⟨rfl, hb6⟩
  · go_enter Tryd.func4, Tryd.ntmps4
    go_wp2_with fail
    refine (wakes_any _ ht).mono ?_
    rintro e w6 ⟨rfl, hb6⟩
    go_wp2_with fail
    go_ret
    exact ⟨rfl, hb6⟩

/-! ### THE ROW's STEP: WRITTEN OUT: LEAVE IT -/
set_option maxRecDepth 100000 in
theorem lifted (os : Os) (started : os.Started) (H : Type) (enc : TypeId × Value → H) :
    ReturnsInHanded {} Tryd.checked os 4 .any (fun w args => (Rows.crcBothSpec.pre enc Tryd.prog Tryd.f4 [] false w args ∧ laidMetH Tryd.prog laidL w) ∧ sizedMet enc Tryd.prog Tryd.f4 (OpenSpec.ofChange Rows.crcBothSpec) false w args) (Rows.crcBothSpec.post enc Tryd.prog Tryd.f4 false true false false) := by
  refine returnsInHanded_of_change_and (C := Tryd.checked) (X := fun w _ => laidMetH Tryd.prog laidL w) (fun _ _ _ hh h => h.of_heap hh) own started (by kernel_rfl) Tryd.func4
    (ChangeSpec.witness_shaped (enc := enc) (C := Tryd.checked) (os := os) (X := fun w _ => laidMetH Tryd.prog laidL w) false (World.doorLaid Tryd.prog 14 os) #[.slice none 0 0, .slice none 0 0] 8 rfl (World.shaped_of_RefB (by kernel_rfl) (by kernel_rfl)) (by kernel_rfl) (by kernel_rfl) (by kernel_rfl) (door_met os _)) ?_
  intro W base args ds gs before hval0 hW _ _ hL _
  have hval : ∀ (j : Nat) t v, Tryd.f4.params[j]? = some t → args[j]? = some v → Value.okWide Tryd.prog W .any base t v := hval0
  have hW' := hW
  obtain ⟨p, q, hA0, hV, rfl, hfz, hnd⟩ := hW
  have hA : DataW.TrodAll enc Tryd.prog W 0 (fun _ => true) true Tryd.f4.params.toList args.toList ds p := hA0
  rw [Tryd.params4] at hA hval
  obtain ⟨v0, vs0, d0, ds0, p0, q0, hargs, rfl, rfl, h0, r0⟩ := trodAll_cons hA
  obtain ⟨v1, vs1, d1, ds1, p1, q1, rfl, rfl, rfl, h1, r1⟩ := trodAll_cons r0
  obtain ⟨rfl, rfl, rfl⟩ := trodAll_nil r1
  obtain rfl : args = #[v0, v1] := by cases args; simp_all
  obtain ⟨rfl, rfl⟩ := trodVars_none hV
  obtain ⟨a0, len0, cap0, rfl⟩ := okWide_slice Tryd.underlying22 (hval 0 22 v0 rfl rfl)
  have k0 := h0
  have lt0 : ∀ x ∈ p0, x.block < W.heap.size := by obtain ⟨m, hm⟩ := k0; exact DataW.trod_lt m _ _ _ hm
  obtain ⟨z0, w0⟩ : ∃ zs, IsRow .u8 W a0 len0 cap0 zs := by
    obtain ⟨fuel, hf⟩ := h0
    rcases open_ints Tryd.underlying22 Tryd.underlying5 (by kernel_rfl) hf with ⟨hcs, _⟩ | ⟨x, l, c, zs, hcs, _, hl, hm, hz, _, hcell, hwz⟩
    · simp [Value.cells] at hcs
      obtain ⟨rfl, rfl, rfl⟩ := hcs
      exact ⟨[], .inl ⟨rfl, rfl, rfl, rfl⟩⟩
    · simp [Value.cells] at hcs
      obtain ⟨rfl, rfl, rfl⟩ := hcs
      exact ⟨zs, .inr ⟨_, rfl, hl, hm, by simpa using hz, hcell, hwz⟩⟩
  obtain ⟨a1, len1, cap1, rfl⟩ := okWide_slice Tryd.underlying22 (hval 1 22 v1 rfl rfl)
  have k1 := h1
  have lt1 : ∀ x ∈ p1, x.block < W.heap.size := by obtain ⟨m, hm⟩ := k1; exact DataW.trod_lt m _ _ _ hm
  obtain ⟨z1, w1⟩ : ∃ zs, IsRow .u8 W a1 len1 cap1 zs := by
    obtain ⟨fuel, hf⟩ := h1
    rcases open_ints Tryd.underlying22 Tryd.underlying5 (by kernel_rfl) hf with ⟨hcs, _⟩ | ⟨x, l, c, zs, hcs, _, hl, hm, hz, _, hcell, hwz⟩
    · simp [Value.cells] at hcs
      obtain ⟨rfl, rfl, rfl⟩ := hcs
      exact ⟨[], .inl ⟨rfl, rfl, rfl, rfl⟩⟩
    · simp [Value.cells] at hcs
      obtain ⟨rfl, rfl, rfl⟩ := hcs
      exact ⟨zs, .inr ⟨_, rfl, hl, hm, by simpa using hz, hcell, hwz⟩⟩
  clear hA0 hval0
  refine (walk a0 len0 cap0 z0 a1 len1 cap1 z1 W w0 w1 (met_of_laid hL)).mono fun e W' ⟨he, bel⟩ => ?_
  subst he
  exact ⟨_, rfl, _, _, _, [], _, [], hW', trodAll_mk1 (shut_bool Tryd.underlying4 _), (trodAll_cons_mk (Below.trod laidOut (by kernel_rfl) (of_decide_eq_true (by kernel_rfl)) k0 bel lt0) (trodAll_cons_mk (Below.trod laidOut (by kernel_rfl) (of_decide_eq_true (by kernel_rfl)) k1 bel lt1) trodAll_mk0)), rfl, bel.frame _, fun h => by cases h⟩

theorem over : Rows.crcBothRow.holds Tryd.pinned (OpenSpec.ofChange Rows.crcBothSpec) :=
  OpenClaim.holds_of_wide 4 Tryd.f4 rfl rfl rfl rfl rfl rfl rfl ⟨rfl, rfl, rfl, rfl, rfl⟩ rfl rfl rfl rfl rfl (by kernel_rfl) Tryd.func4 (by kernel_rfl)
    (of_decide_eq_true (by kernel_rfl)) (by unfold Func.isWrapper; first | (rw [if_pos (by decide +kernel)]; kernel_rfl) | (rw [if_neg (by decide +kernel)]; exact ⟨rfl, rfl⟩))
    (fun os started H enc _ => lifted os started H enc)

/-- ████ THE STATEMENT ████ -/
theorem proved : Rows.CrcBothSaid := over
#print axioms proved

/-- THE TIED CARD. -/
theorem card : Rows.CrcBothCardSaid :=
  Claim7.holds_tied_plain_at .later [] [.data] true (true, "89ec17bd0cc28bd11d5a86c1cd3e22fc14714ca3d19e35ce6f8efbe8033e2e44") false
    proved (fun _ h => by cases h) (by kernel_rfl) (fun _ h => by cases h) crcBoth_row_tie rfl ⟨rfl, rfl⟩ (by kernel_rfl) rfl
    (fun f fn hf hfn => by
      obtain rfl : f = 4 := Option.some.inj ((show Tryd.prog.funcNamed "breakwater/breakwaterlaw02.CrcBoth" = some 4 by kernel_rfl).symm.trans hf) |>.symm
      obtain rfl : fn = Tryd.f4 := (Option.some.inj (Tryd.func4.symm.trans hfn)).symm
      exact ⟨by kernel_rfl, fun j t ht => by
        rw [Tryd.params4] at ht
        have hm : t ∈ [22, 22] := by simpa using Array.mem_of_getElem? ht
        have hall : ([22, 22].all fun u => !Tryd.prog.wantsStandIn u) = true := by kernel_rfl
        exact (show Tryd.prog.wantsStandIn t = false by simpa using List.all_eq_true.1 hall t hm)⟩)
    (by kernel_rfl)
#print axioms card
end Go.Proofs.YtjangncdnofimaaDoor.crcBoth
