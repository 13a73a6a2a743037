/-
  The statement CrcBurst: bytes that differ in up to 32 bits side by side have another sum: for all bytes, every first bit and every choice of bits the call answers true and leaves the bytes as they were. No conditions; the listed table is tied to the program's text.
-/
import Derived.Test.YtjangncdnofimaaDoorCrcLaid
import Derived.ShutString
import Derived.ChangeOld
namespace Go.Proofs.YtjangncdnofimaaDoor.crcBurst
open Go.ChangeShapes Go.WideShapes Go.ChangeAt Go.RowKit
open Go.ChangeMaps (open_string shut_string)
set_option linter.unusedVariables false
set_option linter.unusedSimpArgs false

/-- '((x % m) + m) % m' is from 0 to m - 1. -/
theorem rest_of (x : Int) (m : Nat) (hm : 0 < m) (h2 : m ≤ 1000000) : ∃ n : Nat, n < m ∧ (wrap64 (x.tmod m + m)).tmod m = (n : Int) := by
  have h1 := Int.lt_tmod_of_pos x (show (0 : Int) < m by omega)
  have h3 := Int.tmod_lt_of_pos x (show (0 : Int) < m by omega)
  rw [IntWalk.wrap64_in _ ⟨by omega, by omega⟩]
  have h4 := Int.tmod_nonneg (m : Int) (show 0 ≤ x.tmod m + m by omega)
  have h5 := Int.tmod_lt_of_pos (x.tmod m + m) (show (0 : Int) < m by omega)
  exact ⟨((x.tmod m + m).tmod m).toNat, by omega, by omega⟩

/-- Has one of the first k bits turned something? -/
def chg (v k : Nat) : Bool := decide (v % 2 ^ k ≠ 0)
theorem chg_yes {v k : Nat} (h : v / 2 ^ k % 2 = 1) : chg v (k + 1) = true := decide_eq_true (low_ne h)
theorem chg_no {v k : Nat} (h : v / 2 ^ k % 2 = 0) : chg v (k + 1) = chg v k := by unfold chg; rw [low_same h]
theorem u32_bit (v k : Nat) (hv : v < 4294967296) : bits .and .u32 ((v : Int) / 2 ^ k) 1 = ((v / 2 ^ k % 2 : Nat) : Int) := by
  have e : (v : Int) / 2 ^ k = ((v / 2 ^ k : Nat) : Int) := by rw [Int.natCast_ediv, Int.natCast_pow]; rfl
  rw [e, u32_low _ (Nat.lt_of_le_of_lt (Nat.div_le_self _ _) hv)]
/-- What the bytes are behind k bits. -/
def BurstRel (w : World) (g cap n : Nat) (l : List Nat) (f v k : Nat) (wr : World) : Prop :=
  ∃ cs : List Nat, wr.ownsRow w.heap.size 5 1 (.slice (some ⟨g, 0, none⟩) n cap) n (bv cs) ∧ Bytes cs ∧ cs.length = l.length ∧ val cs = val l ^^^ v % 2 ^ k * 2 ^ f ∧ Below w.heap.size w wr

theorem u8_turn (q j : Nat) (hq : q < 256) (hj : j < 8) : bits .xor .u8 (q : Int) (2 ^ j % 256) = ((q ^^^ 2 ^ j : Nat) : Int) := by
  have hp : 2 ^ j < 256 := Nat.pow_lt_pow_right (a := 2) (by decide) hj
  have e : (2 : Int) ^ j % 256 = ((2 ^ j : Nat) : Int) := by
    have h : ((2 : Int) ^ j) = ((2 ^ j : Nat) : Int) := by rw [Int.natCast_pow]; rfl
    rw [h]
    exact Int.emod_eq_of_lt (Int.natCast_nonneg _) (Int.ofNat_lt.2 hp)
  rw [e, u8_xor_nat q _ hq hp]
theorem bv_set (cs : List Nat) (i b : Nat) : bv (cs.set i b) = (bv cs).set i (.int .u8 (b : Int)) := List.map_set
theorem burst_next {w wr W : World} {g cap n f v k : Nat} {l cs : List Nat} (HR : BurstRel w g cap n l f v k wr) (hone : v / 2 ^ k % 2 = 1) (hown : wr.ownsRow w.heap.size 5 1 (.slice (some ⟨g, 0, none⟩) n cap) n (bv cs)) (hcb : Bytes cs)
    (hcl : cs.length = l.length) (hcv : val cs = val l ^^^ v % 2 ^ k * 2 ^ f) (hb : Below w.heap.size w wr) (hil : (f + k) / 8 < cs.length)
    (hW : W = wr.setCell ⟨g, (f + k) / 8, none⟩ (.int .u8 (bits .xor .u8 ((cs[(f + k) / 8] : Nat) : Int) (2 ^ ((f + k) % 8) % 256)))) : BurstRel w g cap n l f v (k + 1) W := by
  have hq := hcb _ (List.getElem_mem hil)
  rw [u8_turn _ _ hq (Nat.mod_lt _ (by decide))] at hW
  have hst := hown.stored ((f + k) / 8) (.int .u8 ((cs[(f + k) / 8] ^^^ 2 ^ ((f + k) % 8) : Nat) : Int))
  rw [← hW, ← bv_set] at hst
  refine ⟨_, hst.1, ?_, by rw [List.length_set]; exact hcl, ?_, hb.grown hst.2 hb.size (fun j hj => by
    injection hj with hj
    subst hj
    exact (hown.lt _ rfl).1)⟩
  · intro b hb'
    rcases List.mem_or_eq_of_mem_set hb' with h | h
    · exact hcb b h
    · rw [h]
      have hp : 2 ^ ((f + k) % 8) < 2 ^ 8 := Nat.pow_lt_pow_right (by decide) (Nat.mod_lt _ (by decide))
      exact Nat.xor_lt_two_pow (n := 8) (by omega) hp
  · rw [val_set, bit_place, hcv, low_succ hone, shl_xor, Nat.xor_assoc, ← Nat.pow_add, Nat.add_comm k f]
theorem burst_test {l cs : List Nat} {f v k : Nat} (hcl : cs.length = l.length) (hcv : val cs = val l ^^^ v % 2 ^ k * 2 ^ f) (hk : k ≤ 32) (hf : f ≤ 8 * l.length) :
    (((sumS cs : Nat) : Int) == ((sumS l : Nat) : Int)) = !chg v k := by
  have h := harm_sum hcl hcv hk hf
  unfold chg
  by_cases hz : v % 2 ^ k = 0
  · rw [h.2 hz]; simp [hz]
  · have h1 : ¬ sumS cs = sumS l := fun e => hz (h.1 e)
    have e1 : (((sumS cs : Nat) : Int) == ((sumS l : Nat) : Int)) = false := by simp; omega
    rw [e1]; simp [hz]

set_option maxRecDepth 100000 in
set_option maxHeartbeats 1000000 in
theorem walk (a0 : Option Addr) (len0 cap0 : Nat) (z0 : List Int) (a1 : Int) (a2 : Int) (w : World) (w0 : IsRow .u8 w a0 len0 cap0 z0) (w1 : (Lit.int .i64 a1).wf = true) (w2 : (Lit.int .u32 a2).wf = true) (ht : TabOk w) :
    Calls Tryd.prog 7 #[.slice a0 len0 cap0, .int .i64 a1, .int .u32 a2] w fun e w' => e = .returned (.bool true) ∧ Below w.heap.size w w' := by
  obtain ⟨l, hl, hlb, hll, hlm⟩ := bytes_of_row w0
  have bd1 := bd_i64 w1
  obtain ⟨v, rfl, hv⟩ := bd_u32 w2
  have HLL := Lib.hid hll
  obtain ⟨i0, hi, hz0, hz1, hz2⟩ := info_parts infoByte
  clear w0 w1 w2 hll
  by_cases hg0 : len0 ≤ 2000
  · by_cases hg1 : 0 < len0
    · have d1 : ((len0 : Int) == 0) = false := by simp; omega
      obtain ⟨f, hf, ef⟩ := rest_of a1 (8 * len0) (by omega) (by omega)
      rw [Int.natCast_mul] at ef
      have ef : (wrap64 (a1.tmod (8 * (len0 : Int)) + 8 * (len0 : Int))).tmod (8 * (len0 : Int)) = (f : Int) := ef
      have hbe : Below w.heap.size w (w.alloc (.cells #[] 5)) := (Below.refl _ _).alloc (Nat.le_refl _) _
      have hla := hl.below hbe
      go_enter Tryd.func7, Tryd.ntmps7
      go_wp2_with (at_builtin; refine wpList_append_lies rfl (.tmp 31) (.tmp 32) 22 rfl w.heap.size 5 i0 (.int .u8 0) 1 Tryd.underlying22 hi hz0 hz1 hz2 rfl _ 0 [] rfl (World.ownsRow_made w #[] 0 (Nat.le_refl _) (by decide) rfl) w.heap.size a0 len0 cap0 (bv l) rfl hla (bv_one _) ?c1 ?c2 ?c3 ?_)
      case c1 => unfold maxLen; omega
      case c2 => omega
      case c3 => simp
      intro v3 w3 hown3 hg3
      have hb3 : Below w.heap.size w w3 := hbe.grown hg3 (by simp) (fun j hj => by simp [Value.ownBlock] at hj; omega)
      obtain ⟨g, cap, rfl, hgb⟩ : ∃ g cap, v3 = .slice (some ⟨g, 0, none⟩) len0 cap ∧ w.heap.size ≤ g := by
        rcases hown3.2 with ⟨_, h0⟩ | ⟨g, cap, cur, h1, h2, _⟩
        · omega
        · exact ⟨g, cap, h1, h2⟩
      have HR : Hid (BurstRel w g cap len0 l f v 0 w3) := ⟨l, hown3, hlb, rfl, by simp [Nat.mod_one], hb3⟩
      clear hg3 hla hbe hown3 hb3
      go_wp2_with fail
      go_loopw [9, 10] (fun u i wr => ∃ k : Nat, k ≤ 32 ∧ f + k ≤ 8 * len0 ∧ i = .int .i64 k ∧ u = .bool (chg v k) ∧ Hid (BurstRel w g cap len0 l f v k wr)) (fun _ i _ => 32 - (intOf i).toNat)
      case atStart => exact ⟨0, by omega, by omega, rfl, by simp [chg, Nat.mod_one], HR⟩
      case round =>
        clear HR
        obtain ⟨k, hk, hfk, rfl, rfl, HR⟩ := hrel
        by_cases hlt : k < 32 ∧ f + k < 8 * len0
        · obtain ⟨h1, h2⟩ := hlt
          have hbt := u32_bit v k hv
          by_cases hone : v / 2 ^ k % 2 = 1
          · rw [hone] at hbt
            obtain ⟨cs, hown, hcb, hcl, hcv, hb⟩ := HR.out
            have hil : (f + k) / 8 < cs.length := by rw [hcl, HLL.out]; omega
            have hcell := hown.cellAt ((f + k) / 8) (by omega)
            rw [bv_at hil] at hcell
            have hfr := hown.frozenAt ((f + k) / 8)
            have HC := Lib.hid hcl
            have HV := Lib.hid hcv
            have HO := Lib.hid hone
            have HW := Lib.hid hown
            have hq := hcb _ (List.getElem_mem hil)
            have HN := Lib.hid (fun W hW => burst_next (W := W) HR.out hone hown hcb hcl hcv hb hil hW)
            have HX := Lib.hid (chg_yes hone)
            clear hcl hcv hone hown HR
            go_wp2_with fail
            go_roundw
            case rel => exact ⟨k + 1, by omega, by omega, by go_num, by rw [HX.out], HN.out _ rfl⟩
            case measure => simp [intOf]; omega
          · have hzero : v / 2 ^ k % 2 = 0 := by omega
            rw [hzero] at hbt
            have HN : Hid (BurstRel w g cap len0 l f v (k + 1) wr) := by
              obtain ⟨cs, hown, hcb, hcl, hcv, hb⟩ := HR.out
              exact ⟨cs, hown, hcb, hcl, by rw [low_same hzero]; exact hcv, hb⟩
            have HX := Lib.hid (chg_no hzero)
            clear hzero hone HR
            go_wp2_with fail
            go_roundw
            case rel => exact ⟨k + 1, by omega, by omega, by go_num, by rw [HX.out], HN⟩
            case measure => simp [intOf]; omega
        · obtain ⟨cs, hown, hcb, hcl, hcv, hb⟩ := HR.out
          have hlc := Lies.of_own hown
          have htc := ht.below hb
          have hlw := (hl.below hb).more hb.size
          have hp := burst_test hcl hcv hk (by rw [HLL.out]; omega)
          have HP := Lib.hid hp
          clear HR hown hcl hcv hp
          by_cases h32 : k < 32
          · have hnot : ¬ f + k < 8 * len0 := fun h => hlt ⟨h32, h⟩
            clear hlt
            go_wp2_with fail
            refine (Sum_any len0 cap (some ⟨g, 0, none⟩) cs wr htc hlc hcb hlm).mono ?_
            rintro e w5 ⟨rfl, hb5⟩
            have hb05 := hb.trans (hb5.mono hb.size)
            have hlw := (hl.below hb05).more hb05.size
            have ht5 := ht.below hb05
            clear hb5
            go_wp2_with fail
            refine (Sum_any len0 cap0 a0 l w5 ht5 hlw hlb hlm).mono ?_
            rintro e w6 ⟨rfl, hb6⟩
            have hb06 := hb05.trans (hb6.mono hb05.size)
            have ht6 := ht.below hb06
            clear hb05 hb6 hlw ht5 hlc htc hb
            obtain ⟨p, hp, hq⟩ : ∃ p, chg v k = p ∧ (((sumS cs : Nat) : Int) == ((sumS l : Nat) : Int)) = !p := ⟨_, rfl, HP.out⟩
            cases p
            all_goals
              simp only [Bool.not_true, Bool.not_false] at hq
              go_wp2_with fail
              refine (wakes_any _ ht6).mono ?_
              rintro e w7 ⟨rfl, hb7⟩
              go_wp2_with fail
              go_ret
              exact ⟨rfl, hb06.trans (hb7.mono hb06.size)⟩
          · clear hlt
            go_wp2_with fail
            refine (Sum_any len0 cap (some ⟨g, 0, none⟩) cs wr htc hlc hcb hlm).mono ?_
            rintro e w5 ⟨rfl, hb5⟩
            have hb05 := hb.trans (hb5.mono hb.size)
            have hlw := (hl.below hb05).more hb05.size
            have ht5 := ht.below hb05
            clear hb5
            go_wp2_with fail
            refine (Sum_any len0 cap0 a0 l w5 ht5 hlw hlb hlm).mono ?_
            rintro e w6 ⟨rfl, hb6⟩
            have hb06 := hb05.trans (hb6.mono hb05.size)
            have ht6 := ht.below hb06
            clear hb05 hb6 hlw ht5 hlc htc hb
            obtain ⟨p, hp, hq⟩ : ∃ p, chg v k = p ∧ (((sumS cs : Nat) : Int) == ((sumS l : Nat) : Int)) = !p := ⟨_, rfl, HP.out⟩
            cases p
            all_goals
              simp only [Bool.not_true, Bool.not_false] at hq
              go_wp2_with fail
              refine (wakes_any _ ht6).mono ?_
              rintro e w7 ⟨rfl, hb7⟩
              go_wp2_with fail
              go_ret
              exact ⟨rfl, hb06.trans (hb7.mono hb06.size)⟩
    · obtain rfl : len0 = 0 := by omega
      go_enter Tryd.func7, Tryd.ntmps7
      go_wp2_with fail
      refine (wakes_any _ ht).mono ?_
      rintro e w6 ⟨rfl, hb6⟩
      go_wp2_with fail
      go_ret
      exact ⟨rfl, hb6⟩
  · go_enter Tryd.func7, Tryd.ntmps7
    go_wp2_with fail
    refine (wakes_any _ ht).mono ?_
    rintro e w6 ⟨rfl, hb6⟩
    go_wp2_with fail
    go_ret
    exact ⟨rfl, hb6⟩

/-! ### THE ROW's STEP: WRITTEN OUT: LEAVE IT -/
set_option maxRecDepth 100000 in
theorem lifted (os : Os) (started : os.Started) (H : Type) (enc : TypeId × Value → H) :
    ReturnsInHanded {} Tryd.checked os 7 .any (fun w args => (Rows.crcBurstSpec.pre enc Tryd.prog Tryd.f7 [] false w args ∧ laidMetH Tryd.prog laidL w) ∧ sizedMet enc Tryd.prog Tryd.f7 (OpenSpec.ofChange Rows.crcBurstSpec) false w args) (Rows.crcBurstSpec.post enc Tryd.prog Tryd.f7 false true false false) := by
  refine returnsInHanded_of_change_and (C := Tryd.checked) (X := fun w _ => laidMetH Tryd.prog laidL w) (fun _ _ _ hh h => h.of_heap hh) own started (by kernel_rfl) Tryd.func7
    (ChangeSpec.witness_shaped (enc := enc) (C := Tryd.checked) (os := os) (X := fun w _ => laidMetH Tryd.prog laidL w) false (World.doorLaid Tryd.prog 14 os) #[.slice none 0 0, .int .i64 0, .int .u32 0] 8 rfl (World.shaped_of_RefB (by kernel_rfl) (by kernel_rfl)) (by kernel_rfl) (by kernel_rfl) (by kernel_rfl) (door_met os _)) ?_
  intro W base args ds gs before hval0 hW _ _ hL _
  have hval : ∀ (j : Nat) t v, Tryd.f7.params[j]? = some t → args[j]? = some v → Value.okWide Tryd.prog W .any base t v := hval0
  have hW' := hW
  obtain ⟨p, q, hA0, hV, rfl, hfz, hnd⟩ := hW
  have hA : DataW.TrodAll enc Tryd.prog W 0 (fun _ => true) true Tryd.f7.params.toList args.toList ds p := hA0
  rw [Tryd.params7] at hA hval
  obtain ⟨v0, vs0, d0, ds0, p0, q0, hargs, rfl, rfl, h0, r0⟩ := trodAll_cons hA
  obtain ⟨v1, vs1, d1, ds1, p1, q1, rfl, rfl, rfl, h1, r1⟩ := trodAll_cons r0
  obtain ⟨v2, vs2, d2, ds2, p2, q2, rfl, rfl, rfl, h2, r2⟩ := trodAll_cons r1
  obtain ⟨rfl, rfl, rfl⟩ := trodAll_nil r2
  obtain rfl : args = #[v0, v1, v2] := by cases args; simp_all
  obtain ⟨rfl, rfl⟩ := trodVars_none hV
  obtain ⟨a0, len0, cap0, rfl⟩ := okWide_slice Tryd.underlying22 (hval 0 22 v0 rfl rfl)
  have k0 := h0
  have lt0 : ∀ x ∈ p0, x.block < W.heap.size := by obtain ⟨m, hm⟩ := k0; exact DataW.trod_lt m _ _ _ hm
  obtain ⟨z0, w0⟩ : ∃ zs, IsRow .u8 W a0 len0 cap0 zs := by
    obtain ⟨fuel, hf⟩ := h0
    rcases open_ints Tryd.underlying22 Tryd.underlying5 (by kernel_rfl) hf with ⟨hcs, _⟩ | ⟨x, l, c, zs, hcs, _, hl, hm, hz, _, hcell, hwz⟩
    · simp [Value.cells] at hcs
      obtain ⟨rfl, rfl, rfl⟩ := hcs
      exact ⟨[], .inl ⟨rfl, rfl, rfl, rfl⟩⟩
    · simp [Value.cells] at hcs
      obtain ⟨rfl, rfl, rfl⟩ := hcs
      exact ⟨zs, .inr ⟨_, rfl, hl, hm, by simpa using hz, hcell, hwz⟩⟩
  obtain ⟨a1, rfl, rfl, rfl, w1⟩ := open_int Tryd.underlying3 (hval 1 3 v1 rfl rfl) h1
  obtain ⟨a2, rfl, rfl, rfl, w2⟩ := open_int Tryd.underlying34 (hval 2 34 v2 rfl rfl) h2
  clear hA0 hval0
  refine (walk a0 len0 cap0 z0 a1 a2 W w0 w1 w2 (met_of_laid hL)).mono fun e W' ⟨he, bel⟩ => ?_
  subst he
  exact ⟨_, rfl, _, _, _, [], _, [], hW', trodAll_mk1 (shut_bool Tryd.underlying4 _), (trodAll_cons_mk (Below.trod laidOut (by kernel_rfl) (of_decide_eq_true (by kernel_rfl)) k0 bel lt0) (trodAll_cons_mk (shut_int Tryd.underlying3 w1) (trodAll_cons_mk (shut_int Tryd.underlying34 w2) trodAll_mk0))), rfl, bel.frame _, fun h => by cases h⟩

theorem over : Rows.crcBurstRow.holds Tryd.pinned (OpenSpec.ofChange Rows.crcBurstSpec) :=
  OpenClaim.holds_of_wide 7 Tryd.f7 rfl rfl rfl rfl rfl rfl rfl ⟨rfl, rfl, rfl, rfl, rfl⟩ rfl rfl rfl rfl rfl (by kernel_rfl) Tryd.func7 (by kernel_rfl)
    (of_decide_eq_true (by kernel_rfl)) (by unfold Func.isWrapper; first | (rw [if_pos (by decide +kernel)]; kernel_rfl) | (rw [if_neg (by decide +kernel)]; exact ⟨rfl, rfl⟩))
    (fun os started H enc _ => lifted os started H enc)

/-- ████ THE STATEMENT ████ -/
theorem proved : Rows.CrcBurstSaid := over
#print axioms proved

/-- THE TIED CARD. -/
theorem card : Rows.CrcBurstCardSaid :=
  Claim7.holds_tied_plain_at .later [] [.data] true (true, "89ec17bd0cc28bd11d5a86c1cd3e22fc14714ca3d19e35ce6f8efbe8033e2e44") false
    proved (fun _ h => by cases h) (by kernel_rfl) (fun _ h => by cases h) crcBurst_row_tie rfl ⟨rfl, rfl⟩ (by kernel_rfl) rfl
    (fun f fn hf hfn => by
      obtain rfl : f = 7 := Option.some.inj ((show Tryd.prog.funcNamed "breakwater/breakwaterlaw02.CrcBurst" = some 7 by kernel_rfl).symm.trans hf) |>.symm
      obtain rfl : fn = Tryd.f7 := (Option.some.inj (Tryd.func7.symm.trans hfn)).symm
      exact ⟨by kernel_rfl, fun j t ht => by
        rw [Tryd.params7] at ht
        have hm : t ∈ [22, 3, 34] := by simpa using Array.mem_of_getElem? ht
        have hall : ([22, 3, 34].all fun u => !Tryd.prog.wantsStandIn u) = true := by kernel_rfl
        exact (show Tryd.prog.wantsStandIn t = false by simpa using List.all_eq_true.1 hall t hm)⟩)
    (by kernel_rfl)
#print axioms card
end Go.Proofs.YtjangncdnofimaaDoor.crcBurst
