/-
  The statement CrcClose: four bytes make any sum of any bytes, and no others do: for all bytes, every sum and every change the call answers true and leaves the bytes as they were. No conditions; the listed table is tied to the program's text.
-/
import Derived.Test.YtjangncdnofimaaDoorCrcLaid
import Derived.ShutString
import Derived.ChangeOld
namespace Go.Proofs.YtjangncdnofimaaDoor.crcClose
open Go.ChangeShapes Go.WideShapes Go.ChangeAt Go.RowKit
open Go.ChangeMaps (open_string shut_string)
set_option linter.unusedVariables false
set_option linter.unusedSimpArgs false


theorem close_zero {l : List Nat} {want : Nat} (hl : Bytes l) (h : want < 4294967296) : sumS (l ++ four (closeV l want)) = want := by
  have e := close_sum (ch := 0) hl h (by omega)
  rwa [Nat.xor_zero, stN_zero, Nat.xor_zero] at e

theorem xor_div (x y j : Nat) : (x ^^^ y) / 2 ^ j = x / 2 ^ j ^^^ y / 2 ^ j := by
  have h := Nat.shiftRight_xor_distrib (a := x) (b := y) (i := j)
  rwa [Nat.shiftRight_eq_div_pow, Nat.shiftRight_eq_div_pow, Nat.shiftRight_eq_div_pow] at h
theorem xor_byte (x y j : Nat) : (x ^^^ y) / 2 ^ j % 256 = x / 2 ^ j % 256 ^^^ y / 2 ^ j % 256 := by
  rw [xor_div]
  exact Nat.xor_mod_two_pow (n := 8)
theorem byte_of (a : Int) (j : Nat) (h : j = 0 ∨ j = 8 ∨ j = 16 ∨ j = 24) : a / 2 ^ j % 256 = ((r32 a / 2 ^ j % 256 : Nat) : Int) := by
  unfold r32
  rcases h with rfl | rfl | rfl | rfl
  · simp only [Int.pow_zero, Nat.pow_zero]; omega
  · show a / 256 % 256 = (((a % 4294967296).toNat / 256 % 256 : Nat) : Int); omega
  · show a / 65536 % 256 = (((a % 4294967296).toNat / 65536 % 256 : Nat) : Int); omega
  · show a / 16777216 % 256 = (((a % 4294967296).toNat / 16777216 % 256 : Nat) : Int); omega
theorem close_one (V : Nat) (a : Int) (j : Nat) (h : j = 0 ∨ j = 8 ∨ j = 16 ∨ j = 24) : bits .xor .u8 ((V / 2 ^ j % 256 : Nat) : Int) (a / 2 ^ j % 256) = (((V ^^^ r32 a) / 2 ^ j % 256 : Nat) : Int) := by
  rw [byte_of a j h, u8_xor_nat _ _ (Nat.mod_lt _ (by decide)) (Nat.mod_lt _ (by decide)), xor_byte]
theorem close_byte (V : Nat) (a : Int) {k : Nat} (hk : k < 4) : bits .xor .u8 (((four V)[k]'hk : Nat) : Int) (a / 2 ^ (8 * k) % 256) = (((four (V ^^^ r32 a))[k]'hk : Nat) : Int) := by
  match k, hk with
  | 0, _ => have h := close_one V a 0 (by simp); simpa [four] using h
  | 1, _ => exact close_one V a 8 (by simp)
  | 2, _ => exact close_one V a 16 (by simp)
  | 3, _ => exact close_one V a 24 (by simp)
theorem close_test {l : List Nat} (hl : Bytes l) (a b : Int) : (((sumS (l ++ four (closeV l (r32 a) ^^^ r32 b)) : Nat) : Int) == ((r32 a : Nat) : Int)) = (((r32 b : Nat) : Int) == 0) := by
  have h := close_iff hl (r32_lt a) (r32_lt b)
  by_cases hc : r32 b = 0
  · rw [h.2 hc, hc]; simp
  · have h1 : ¬ sumS (l ++ four (closeV l (r32 a) ^^^ r32 b)) = r32 a := fun e => hc (h.1 e)
    have e1 : (((sumS (l ++ four (closeV l (r32 a) ^^^ r32 b)) : Nat) : Int) == ((r32 a : Nat) : Int)) = false := by simp; omega
    have e2 : (((r32 b : Nat) : Int) == 0) = false := by simp; omega
    rw [e1, e2]

set_option maxRecDepth 100000 in
set_option maxHeartbeats 1000000 in
theorem walk (a0 : Option Addr) (len0 cap0 : Nat) (z0 : List Int) (a1 : Int) (a2 : Int) (w : World) (w0 : IsRow .u8 w a0 len0 cap0 z0) (w1 : (Lit.int .i64 a1).wf = true) (w2 : (Lit.int .i64 a2).wf = true) (ht : TabOk w) :
    Calls Tryd.prog 6 #[.slice a0 len0 cap0, .int .i64 a1, .int .i64 a2] w fun e w' => e = .returned (.bool true) ∧ Below w.heap.size w w' := by
  obtain ⟨l, hl, hlb, hll, hlm⟩ := bytes_of_row w0
  have bd1 := bd_i64 w1
  have bd2 := bd_i64 w2
  have HLL := Lib.hid hll
  obtain ⟨i0, hi, hz0, hz1, hz2⟩ := info_parts infoByte
  clear w0 w1 w2 hll
  by_cases hg0 : len0 ≤ 2000
  · have f1 := i64_rest a1
    have f2 := i64_rest a2
    go_enter Tryd.func6, Tryd.ntmps6
    go_wp2_with fail
    refine (Close_any a1 len0 cap0 a0 l w (by omega) (by omega) ht hl hlb hlm).mono ?_
    rintro e w1 ⟨hb1, ad, c1, rfl, hc1⟩
    have hs1 := hb1.size
    have hbe : Below w1.heap.size w1 (w1.alloc (.cells #[] 5)) := (Below.refl _ _).alloc (Nat.le_refl _) _
    have hla := ((hl.below hb1).more hs1).below hbe
    go_wp2_with (at_builtin; refine wpList_append_lies_g rfl (.tmp 21) (.tmp 22) 22 rfl w1.heap.size 5 i0 (.int .u8 0) 1 Tryd.underlying22 hi hz0 hz1 hz2 rfl _ 0 [] rfl (World.ownsRow_made w1 #[] 0 (Nat.le_refl _) (by decide) rfl) w1.heap.size a0 len0 cap0 (bv l) rfl hla (bv_one _) ?c1 ?c2 ?c3 ?_)
    case c1 => unfold maxLen; omega
    case c2 => omega
    case c3 => simp
    intro v3 w3 hown3 hg3
    have hb3 : Below w1.heap.size w1 w3 := hbe.grown hg3 (by simp) (fun j hj => by simp [Value.ownBlock] at hj; omega)
    have hcb := hc1.below hb3
    clear hg3 hla hbe
    go_wp2_with (at_builtin; refine wpList_append_lies_g rfl (.tmp 23) (.tmp 24) 22 rfl w1.heap.size 5 i0 (.int .u8 0) 1 Tryd.underlying22 hi hz0 hz1 hz2 rfl _ _ _ rfl hown3 w1.heap.size (some ad) 4 c1 (bv (four (closeV l (r32 a1)))) rfl hcb (bv_one _) ?d1 ?d2 ?d3 ?_)
    case d1 => unfold maxLen; omega
    case d2 => omega
    case d3 => exact hb3.size
    intro v4 w4 hown4 hg4
    have hb4 : Below w1.heap.size w1 w4 := hb3.grown hg4 hb3.size (fun j hj => (hown3.lt j hj).1)
    obtain ⟨A4, c4, rfl⟩ := own_shape hown4
    have hl4 : Lies w4 w4.heap.size A4 (len0 + 4) (bv (l ++ four (closeV l (r32 a1)))) := by
      rw [bv_append]
      exact Lies.of_own hown4
    have hb04 := hb1.trans (hb4.mono hs1)
    have hc4 := (hc1.below hb4).more hb4.size
    have ht4 := ht.below hb04
    have hvb : Bytes (l ++ four (closeV l (r32 a1))) := hlb.append (bytes_four _)
    have hs04 := hb04.size
    clear hg4 hown4 hown3 hb3 hcb hb4 hb1 hs1 hc1
    go_wp2_with fail
    refine (Sum_any (len0 + 4) c4 A4 _ w4 ht4 hl4 hvb (by omega)).mono ?_
    rintro e w5 ⟨rfl, hb5⟩
    rw [close_zero hlb (r32_lt a1)]
    have hb05 := hb04.trans (hb5.mono hs04)
    have hc5 := (hc4.below hb5).more hb5.size
    have hs05 := hb05.size
    clear hb04 hb5 hl4 ht4 hc4 hs04
    have hbe : Below w5.heap.size w5 (w5.alloc (.cells #[] 5)) := (Below.refl _ _).alloc (Nat.le_refl _) _
    have hla := ((hl.below hb05).more hs05).below hbe
    go_wp2_with (at_builtin; refine wpList_append_lies_g rfl (.tmp 31) (.tmp 32) 22 rfl w5.heap.size 5 i0 (.int .u8 0) 1 Tryd.underlying22 hi hz0 hz1 hz2 rfl _ 0 [] rfl (World.ownsRow_made w5 #[] 0 (Nat.le_refl _) (by decide) rfl) w5.heap.size a0 len0 cap0 (bv l) rfl hla (bv_one _) ?e1 ?e2 ?e3 ?_)
    case e1 => unfold maxLen; omega
    case e2 => omega
    case e3 => simp
    intro v6 w6 hown6 hg6
    have hb6 : Below w5.heap.size w5 w6 := hbe.grown hg6 (by simp) (fun j hj => by simp [Value.ownBlock] at hj; omega)
    have hc6 := hc5.below hb6
    clear hg6 hla hbe
    go_wp2_with fail
    go_loopw [8, 9] (fun v i wr => ∃ k : Nat, k ≤ 4 ∧ i = .int .i64 k ∧ wr.ownsRow w5.heap.size 5 1 v (len0 + k) (bv (l ++ (four (closeV l (r32 a1) ^^^ r32 a2)).take k)) ∧ Below w5.heap.size w5 wr) (fun _ i _ => 4 - (intOf i).toNat)
    case atStart => exact ⟨0, Nat.zero_le _, rfl, by simpa using hown6, hb6⟩
    case round =>
      clear hown6 hb6 hc6
      obtain ⟨k, hk, rfl, hown, hb⟩ := hrel
      by_cases hlt : k < 4
      · have hcr := hc5.below hb
        obtain ⟨ad', u, had', had, hu, hcell⟩ := hcr.at_ hlt
        obtain rfl : ad = ad' := Option.some.inj had'
        rw [bv_at (show k < (four (closeV l (r32 a1))).length from hlt)] at hu
        obtain rfl := (Option.some.inj hu).symm
        have f3 := close_byte (closeV l (r32 a1)) a2 hlt
        clear hu hcr
        go_wp2_with (at_builtin; refine wpList_append_own _ rfl (.tmp 38) (.tmp 50) 22 rfl w5.heap.size 5 i0 (.int .u8 0) 1 1 Tryd.underlying22 hi hz0 hz1 hz2 rfl (by decide) _ _ _ rfl (hown.alloc _) ⟨wr.heap.size, 0, none⟩ 1 1 [_] rfl rfl (cell_new _ _ _) (one_int _ _) ?g1 ?g2 ?g3 ?_)
        case g1 => unfold maxLen; omega
        case g2 => omega
        case g3 => have := hb.size; simp; omega
        intro v7 w7 hown7 hg7 _
        have HO : Hid (w7.ownsRow w5.heap.size 5 1 v7 (len0 + (k + 1)) (bv (l ++ (four (closeV l (r32 a1) ^^^ r32 a2)).take (k + 1)))) := by
          rw [List.take_succ_eq_append_getElem (show k < (four (closeV l (r32 a1) ^^^ r32 a2)).length from hlt), ← List.append_assoc, bv_append]
          exact cast (congrArg (fun z : Int => w7.ownsRow w5.heap.size 5 1 v7 (len0 + (k + 1)) (bv (l ++ (four (closeV l (r32 a1) ^^^ r32 a2)).take k) ++ [Value.int .u8 z])) f3) hown7
        have hb7 : Below w5.heap.size w5 w7 := (hb.alloc hb.size _).grown hg7 (by have := hb.size; simp; omega) (fun j hj => (hown.lt j hj).1)
        clear hown7 hg7 hown hb f3 hcell
        go_wp2
        go_roundw
        case rel => exact ⟨k + 1, by omega, by go_num, HO.out, hb7⟩
        case measure => simp [intOf]; omega
      · have hown9 := hown
        rw [show k = 4 by omega] at hown9
        clear hown
        obtain ⟨A9, c9, rfl⟩ := own_shape hown9
        have hl9 : Lies wr wr.heap.size A9 (len0 + 4) (bv (l ++ four (closeV l (r32 a1) ^^^ r32 a2))) := Lies.of_own hown9
        have hb09 := hb05.trans (hb.mono hs05)
        have ht9 := ht.below hb09
        have hvb9 : Bytes (l ++ four (closeV l (r32 a1) ^^^ r32 a2)) := hlb.append (bytes_four _)
        clear hown9 hb hb05 hc5
        go_wp2_with fail
        refine (Sum_any (len0 + 4) c9 A9 _ wr ht9 hl9 hvb9 (by omega)).mono ?_
        rintro e w10 ⟨rfl, hb10⟩
        have hb010 := hb09.trans (hb10.mono hb09.size)
        have ht10 := ht.below hb010
        obtain ⟨p, hp, hq⟩ : ∃ p, (((sumS (l ++ four (closeV l (r32 a1) ^^^ r32 a2)) : Nat) : Int) == ((r32 a1 : Nat) : Int)) = p ∧ (((r32 a2 : Nat) : Int) == 0) = p := ⟨_, close_test hlb a1 a2, rfl⟩
        clear hb09 hb10 hl9 ht9 hvb9
        cases p
        all_goals
          go_wp2_with fail
          refine (wakes_any _ ht10).mono ?_
          rintro e w11 ⟨rfl, hb11⟩
          go_wp2_with fail
          go_ret
          exact ⟨rfl, hb010.trans (hb11.mono hb010.size)⟩
  · go_enter Tryd.func6, Tryd.ntmps6
    go_wp2_with fail
    refine (wakes_any _ ht).mono ?_
    rintro e w6 ⟨rfl, hb6⟩
    go_wp2_with fail
    go_ret
    exact ⟨rfl, hb6⟩

/-! ### THE ROW's STEP: WRITTEN OUT: LEAVE IT -/
set_option maxRecDepth 100000 in
theorem lifted (os : Os) (started : os.Started) (H : Type) (enc : TypeId × Value → H) :
    ReturnsInHanded {} Tryd.checked os 6 .any (fun w args => (Rows.crcCloseSpec.pre enc Tryd.prog Tryd.f6 [] false w args ∧ laidMetH Tryd.prog laidL w) ∧ sizedMet enc Tryd.prog Tryd.f6 (OpenSpec.ofChange Rows.crcCloseSpec) false w args) (Rows.crcCloseSpec.post enc Tryd.prog Tryd.f6 false true false false) := by
  refine returnsInHanded_of_change_and (C := Tryd.checked) (X := fun w _ => laidMetH Tryd.prog laidL w) (fun _ _ _ hh h => h.of_heap hh) own started (by kernel_rfl) Tryd.func6
    (ChangeSpec.witness_shaped (enc := enc) (C := Tryd.checked) (os := os) (X := fun w _ => laidMetH Tryd.prog laidL w) false (World.doorLaid Tryd.prog 14 os) #[.slice none 0 0, .int .i64 0, .int .i64 0] 8 rfl (World.shaped_of_RefB (by kernel_rfl) (by kernel_rfl)) (by kernel_rfl) (by kernel_rfl) (by kernel_rfl) (door_met os _)) ?_
  intro W base args ds gs before hval0 hW _ _ hL _
  have hval : ∀ (j : Nat) t v, Tryd.f6.params[j]? = some t → args[j]? = some v → Value.okWide Tryd.prog W .any base t v := hval0
  have hW' := hW
  obtain ⟨p, q, hA0, hV, rfl, hfz, hnd⟩ := hW
  have hA : DataW.TrodAll enc Tryd.prog W 0 (fun _ => true) true Tryd.f6.params.toList args.toList ds p := hA0
  rw [Tryd.params6] at hA hval
  obtain ⟨v0, vs0, d0, ds0, p0, q0, hargs, rfl, rfl, h0, r0⟩ := trodAll_cons hA
  obtain ⟨v1, vs1, d1, ds1, p1, q1, rfl, rfl, rfl, h1, r1⟩ := trodAll_cons r0
  obtain ⟨v2, vs2, d2, ds2, p2, q2, rfl, rfl, rfl, h2, r2⟩ := trodAll_cons r1
  obtain ⟨rfl, rfl, rfl⟩ := trodAll_nil r2
  obtain rfl : args = #[v0, v1, v2] := by cases args; simp_all
  obtain ⟨rfl, rfl⟩ := trodVars_none hV
  obtain ⟨a0, len0, cap0, rfl⟩ := okWide_slice Tryd.underlying22 (hval 0 22 v0 rfl rfl)
  have k0 := h0
  have lt0 : ∀ x ∈ p0, x.block < W.heap.size := by obtain ⟨m, hm⟩ := k0; exact DataW.trod_lt m _ _ _ hm
  obtain ⟨z0, w0⟩ : ∃ zs, IsRow .u8 W a0 len0 cap0 zs := by
    obtain ⟨fuel, hf⟩ := h0
    rcases open_ints Tryd.underlying22 Tryd.underlying5 (by kernel_rfl) hf with ⟨hcs, _⟩ | ⟨x, l, c, zs, hcs, _, hl, hm, hz, _, hcell, hwz⟩
    · simp [Value.cells] at hcs
      obtain ⟨rfl, rfl, rfl⟩ := hcs
      exact ⟨[], .inl ⟨rfl, rfl, rfl, rfl⟩⟩
    · simp [Value.cells] at hcs
      obtain ⟨rfl, rfl, rfl⟩ := hcs
      exact ⟨zs, .inr ⟨_, rfl, hl, hm, by simpa using hz, hcell, hwz⟩⟩
  obtain ⟨a1, rfl, rfl, rfl, w1⟩ := open_int Tryd.underlying3 (hval 1 3 v1 rfl rfl) h1
  obtain ⟨a2, rfl, rfl, rfl, w2⟩ := open_int Tryd.underlying3 (hval 2 3 v2 rfl rfl) h2
  clear hA0 hval0
  refine (walk a0 len0 cap0 z0 a1 a2 W w0 w1 w2 (met_of_laid hL)).mono fun e W' ⟨he, bel⟩ => ?_
  subst he
  exact ⟨_, rfl, _, _, _, [], _, [], hW', trodAll_mk1 (shut_bool Tryd.underlying4 _), (trodAll_cons_mk (Below.trod laidOut (by kernel_rfl) (of_decide_eq_true (by kernel_rfl)) k0 bel lt0) (trodAll_cons_mk (shut_int Tryd.underlying3 w1) (trodAll_cons_mk (shut_int Tryd.underlying3 w2) trodAll_mk0))), rfl, bel.frame _, fun h => by cases h⟩

theorem over : Rows.crcCloseRow.holds Tryd.pinned (OpenSpec.ofChange Rows.crcCloseSpec) :=
  OpenClaim.holds_of_wide 6 Tryd.f6 rfl rfl rfl rfl rfl rfl rfl ⟨rfl, rfl, rfl, rfl, rfl⟩ rfl rfl rfl rfl rfl (by kernel_rfl) Tryd.func6 (by kernel_rfl)
    (of_decide_eq_true (by kernel_rfl)) (by unfold Func.isWrapper; first | (rw [if_pos (by decide +kernel)]; kernel_rfl) | (rw [if_neg (by decide +kernel)]; exact ⟨rfl, rfl⟩))
    (fun os started H enc _ => lifted os started H enc)

/-- ████ THE STATEMENT ████ -/
theorem proved : Rows.CrcCloseSaid := over
#print axioms proved

/-- THE TIED CARD. -/
theorem card : Rows.CrcCloseCardSaid :=
  Claim7.holds_tied_plain_at .later [] [.data] true (true, "89ec17bd0cc28bd11d5a86c1cd3e22fc14714ca3d19e35ce6f8efbe8033e2e44") false
    proved (fun _ h => by cases h) (by kernel_rfl) (fun _ h => by cases h) crcClose_row_tie rfl ⟨rfl, rfl⟩ (by kernel_rfl) rfl
    (fun f fn hf hfn => by
      obtain rfl : f = 6 := Option.some.inj ((show Tryd.prog.funcNamed "breakwater/breakwaterlaw02.CrcClose" = some 6 by kernel_rfl).symm.trans hf) |>.symm
      obtain rfl : fn = Tryd.f6 := (Option.some.inj (Tryd.func6.symm.trans hfn)).symm
      exact ⟨by kernel_rfl, fun j t ht => by
        rw [Tryd.params6] at ht
        have hm : t ∈ [22, 3, 3] := by simpa using Array.mem_of_getElem? ht
        have hall : ([22, 3, 3].all fun u => !Tryd.prog.wantsStandIn u) = true := by kernel_rfl
        exact (show Tryd.prog.wantsStandIn t = false by simpa using List.all_eq_true.1 hall t hm)⟩)
    (by kernel_rfl)
#print axioms card
end Go.Proofs.YtjangncdnofimaaDoor.crcClose
