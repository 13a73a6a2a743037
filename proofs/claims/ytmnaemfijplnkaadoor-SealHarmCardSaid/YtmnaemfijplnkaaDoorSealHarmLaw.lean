/-
  The statement SealHarm: up to 32 bits side by side, all ahead of the sum or all in it, are told: for every kind, load, first bit and choice of bits the call answers true and the arguments stay as they were. No conditions; the listed table is tied to the program's text.
-/
import Derived.Test.YtmnaemfijplnkaaDoorSealHarm
import Derived.Test.YtmnaemfijplnkaaDoorFresh
import Derived.ShutString
import Derived.ChangeOld
namespace Go.Proofs.YtmnaemfijplnkaaDoor.sealHarm
open Go.ChangeShapes Go.WideShapes Go.ChangeAt Go.RowKit
open Go.ChangeMaps (open_string shut_string)
set_option linter.unusedVariables false
set_option linter.unusedSimpArgs false

/-- '((x % m) + m) % m' is from 0 to m - 1. -/
theorem rest_of (x : Int) (m : Nat) (hm : 0 < m) (h2 : m ≤ 1000000) : ∃ n : Nat, n < m ∧ (wrap64 (x.tmod m + m)).tmod m = (n : Int) := by
  have h1 := Int.lt_tmod_of_pos x (show (0 : Int) < m by omega)
  have h3 := Int.tmod_lt_of_pos x (show (0 : Int) < m by omega)
  rw [IntWalk.wrap64_in _ ⟨by omega, by omega⟩]
  have h4 := Int.tmod_nonneg (m : Int) (show 0 ≤ x.tmod m + m by omega)
  have h5 := Int.tmod_lt_of_pos (x.tmod m + m) (show (0 : Int) < m by omega)
  exact ⟨((x.tmod m + m).tmod m).toNat, by omega, by omega⟩

/-- Has one of the first k bits turned something? -/
def chg (v k : Nat) : Bool := decide (v % 2 ^ k ≠ 0)
theorem chg_yes {v k : Nat} (h : v / 2 ^ k % 2 = 1) : chg v (k + 1) = true := decide_eq_true (low_ne h)
theorem chg_no {v k : Nat} (h : v / 2 ^ k % 2 = 0) : chg v (k + 1) = chg v k := by unfold chg; rw [low_same h]
theorem u32_bit (v k : Nat) (hv : v < 4294967296) : bits .and .u32 ((v : Int) / 2 ^ k) 1 = ((v / 2 ^ k % 2 : Nat) : Int) := by
  have e : (v : Int) / 2 ^ k = ((v / 2 ^ k : Nat) : Int) := by rw [Int.natCast_ediv, Int.natCast_pow]; rfl
  rw [e, u32_low _ (Nat.lt_of_le_of_lt (Nat.div_le_self _ _) hv)]
theorem u8_turn (q j : Nat) (hq : q < 256) (hj : j < 8) : bits .xor .u8 (q : Int) (2 ^ j % 256) = ((q ^^^ 2 ^ j : Nat) : Int) := by
  have hp : 2 ^ j < 256 := Nat.pow_lt_pow_right (a := 2) (by decide) hj
  have e : (2 : Int) ^ j % 256 = ((2 ^ j : Nat) : Int) := by
    have h : ((2 : Int) ^ j) = ((2 ^ j : Nat) : Int) := by rw [Int.natCast_pow]; rfl
    rw [h]
    exact Int.emod_eq_of_lt (Int.natCast_nonneg _) (Int.ofNat_lt.2 hp)
  rw [e, u8_xor_nat q _ hq hp]

/-- What the bytes are behind k bits. -/
def HarmRel (w : World) (g : Nat) (b : List Nat) (f v k : Nat) (wr : World) : Prop :=
  ∃ cs : List Nat, FreshAt wr g 5 cs ∧ Bytes cs ∧ cs.length = b.length ∧ val cs = val b ^^^ v % 2 ^ k * 2 ^ f ∧ Below w.heap.size w wr ∧ w.heap.size ≤ g
theorem harm_next {w wr W : World} {g f v k : Nat} {b cs : List Nat} (hone : v / 2 ^ k % 2 = 1) (hfa : FreshAt wr g 5 cs) (hcb : Bytes cs)
    (hcl : cs.length = b.length) (hcv : val cs = val b ^^^ v % 2 ^ k * 2 ^ f) (hb : Below w.heap.size w wr) (hg : w.heap.size ≤ g) (hil : (f + k) / 8 < cs.length)
    (hW : W = wr.setCell ⟨g, (f + k) / 8, none⟩ (.int .u8 (bits .xor .u8 ((cs[(f + k) / 8] : Nat) : Int) (2 ^ ((f + k) % 8) % 256)))) : HarmRel w g b f v (k + 1) W := by
  have hq := hcb _ (List.getElem_mem hil)
  rw [u8_turn _ _ hq (Nat.mod_lt _ (by decide))] at hW
  subst hW
  refine ⟨_, hfa.set ((f + k) / 8) _, ?_, by rw [List.length_set]; exact hcl, ?_, below_set hb hg _ _, hg⟩
  · intro x hx
    rcases List.mem_or_eq_of_mem_set hx with h | h
    · exact hcb x h
    · rw [h]
      have hp : 2 ^ ((f + k) % 8) < 2 ^ 8 := Nat.pow_lt_pow_right (by decide) (Nat.mod_lt _ (by decide))
      exact Nat.xor_lt_two_pow (n := 8) (by omega) hp
  · rw [val_set, bit_place, hcv, low_succ hone, shl_xor, Nat.xor_assoc, ← Nat.pow_add, Nat.add_comm k f]

/-- The harmed text. -/
def harmed (cs : List Nat) : ByteArray := strOfNums (ints cs)
theorem harm_conv {wr : World} {g c n : Nat} {cs : List Nat} (h : FreshAt wr g 5 cs) (hl : cs.length = n) : (convert 37 9 (.slice (some ⟨g, 0, none⟩) n c)).run Tryd.prog wr = .ok (.string (harmed cs)) wr := by
  have hlies := h.lies
  rw [hl] at hlies
  have e : bv cs = (ints cs).map (Value.int .u8) := by
    unfold bv ints
    rw [List.map_map]
    rfl
  rw [e] at hlies
  exact conv_lies 37 9 5 Tryd.underlying37 Tryd.underlying5 Tryd.underlying9 hlies
theorem harm_isS {k : Int} {s : ByteArray} (hk1 : 1 ≤ k) (hk2 : k ≤ 127) (hs : s.size ≤ 505) {cs : List Nat} (hcb : Bytes cs) (hcl : cs.length = (nats (bytesI (sealS k s))).length) {v i f : Nat}
    (hv : val cs = val (nats (bytesI (sealS k s))) ^^^ v % 2 ^ i * 2 ^ f) (hi : i ≤ 32) (hcase : f + i ≤ 8 * (s.size + 3) ∨ (8 * (s.size + 3) ≤ f ∧ f + i ≤ 8 * (s.size + 7))) : isS (harmed cs) = !chg v i := by
  unfold isS harmed
  rw [bytesI_strOfNums (ints_bytes hcb)]
  rw [bytesI_sealS (by omega) (by omega)] at hv hcl
  rw [nats_length, sealI_length] at hcl
  rw [harm_iff hk1 hk2 (bytesI_bytes s) (by rw [bytesI_length]; exact hs) hcb hcl hv hi (by rw [bytesI_length]; exact hcase)]
  unfold chg
  by_cases h : v % 2 ^ i = 0 <;> simp [h]
theorem harmed_size (cs : List Nat) : (harmed cs).size = cs.length := by unfold harmed; rw [strOfNums_size, ints_length]

set_option maxRecDepth 100000 in
set_option maxHeartbeats 2000000 in
theorem walk (a0 : Int) (a1 : ByteArray) (a2 : Int) (a3 : Int) (w0 : (Lit.int .i8 a0).wf = true) (w1' : a1.size ≤ maxLen) (w2 : (Lit.int .i64 a2).wf = true) (w3 : (Lit.int .u32 a3).wf = true) (w : World) (ht : TabOk w) :
    Calls Tryd.prog 6 #[.int .i8 a0, .string a1, .int .i64 a2, .int .u32 a3] w fun e w' => e = .returned (.bool true) ∧ Below w.heap.size w w' := by
  have hk := (bd_i8 w0).2
  have bd2 := bd_i64 w2
  obtain ⟨v, rfl, hv⟩ := bd_u32 w3
  have M1 := Lib.hid w1'
  unfold maxLen at w1'
  clear w0 w2 w3
  by_cases g1 : a1.size ≤ 505
  · by_cases g4 : 1 ≤ a0
    · have hsz := sealS_size a0 a1
      have HO := Lib.hid (sealOut_yes (mayS_yes g4 g1))
      have HI : Hid (∀ (cs : List Nat) (i f : Nat), Bytes cs → cs.length = (nats (bytesI (sealS a0 a1))).length → val cs = val (nats (bytesI (sealS a0 a1))) ^^^ v % 2 ^ i * 2 ^ f → i ≤ 32 → (f + i ≤ 8 * (a1.size + 3) ∨ (8 * (a1.size + 3) ≤ f ∧ f + i ≤ 8 * (a1.size + 7))) → isS (harmed cs) = !chg v i) := fun cs i f hcb hcl hcv hi hcase => harm_isS g4 hk g1 hcb hcl hcv hi hcase
      generalize sealS a0 a1 = S at *
      have HBL : Hid ((nats (bytesI S)).length = S.size) := by show _ = _; rw [nats_length, bytesI_length]
      obtain ⟨f, hf, ef⟩ := rest_of a2 (8 * S.size) (by omega) (by omega)
      rw [Int.natCast_mul] at ef
      have ef : (wrap64 (a2.tmod (8 * (S.size : Int)) + 8 * (S.size : Int))).tmod (8 * (S.size : Int)) = (f : Int) := ef
      have hd7 : ((S.size : Int) != (a1.size : Int) + 7) = false := by rw [bne_eq_false_iff_eq]; omega
      have hs1 : 7 ≤ S.size := by omega
      have hs2 : S.size ≤ 512 := by omega
      have HSZ := Lib.hid hsz
      clear hsz
      go_enter Tryd.func6, Tryd.ntmps6
      go_wp2_with fail
      refine (Seal_any a0 a1 w hk M1.out ht).mono ?_
      rintro e w1 ⟨rfl, hb1⟩
      rw [HO.out]
      obtain ⟨c0, wb, hcv0, hfa0, hbb⟩ := str_fresh (P := Tryd.prog) w1 9 37 5 S Tryd.underlying9 Tryd.underlying37 Tryd.underlying5
      have HR : Hid (HarmRel w w1.heap.size (nats (bytesI S)) f v 0 wb) := ⟨_, hfa0, bytes_nats (bytesI_bytes S), rfl, by simp [Nat.mod_one], hb1.trans (hbb.mono hb1.size), hb1.size⟩
      clear hfa0 hbb hb1
      by_cases hfe : f < 8 * S.size - 32
      · have hfd : decide ((f : Int) < 8 * (S.size : Int) - 32) = true := decide_eq_true (by omega)
        have hcaseN : ∀ i, f + i ≤ 8 * S.size - 32 → (f + i ≤ 8 * (a1.size + 3) ∨ (8 * (a1.size + 3) ≤ f ∧ f + i ≤ 8 * (a1.size + 7))) := fun i hi => .inl (by have := HSZ.out; omega)
        have HA := Lib.hid hcaseN
        go_wp2_with fail
        go_loopw [14, 15] (fun u i wr => ∃ k : Nat, k ≤ 32 ∧ f + k ≤ 8 * S.size - 32 ∧ i = .int .i64 k ∧ u = .bool (chg v k) ∧ Hid (HarmRel w w1.heap.size (nats (bytesI S)) f v k wr)) (fun _ i _ => 32 - (intOf i).toNat)
        case atStart => exact ⟨0, by omega, by omega, rfl, by simp [chg, Nat.mod_one], HR⟩
        case round =>
          clear HR
          obtain ⟨k, hk, hfk, rfl, rfl, HR⟩ := hrel
          by_cases hlt : k < 32 ∧ f + k < 8 * S.size - 32
          · obtain ⟨l1, l2⟩ := hlt
            have hbt := u32_bit v k hv
            by_cases hone : v / 2 ^ k % 2 = 1
            · rw [hone] at hbt
              obtain ⟨cs, hfa, hcb, hcl, hcv, hb, hgg⟩ := HR.out
              have hcs : cs.length = S.size := by rw [hcl]; exact HBL.out
              have hil : (f + k) / 8 < cs.length := by omega
              have hcell := hfa.cell hil
              have hfr := hfa.free hil
              have HN := Lib.hid (fun W hW => harm_next (W := W) hone hfa hcb hcl hcv hb hgg hil hW)
              have HX := Lib.hid (chg_yes hone)
              have hq := hcb _ (List.getElem_mem hil)
              clear hcl hcv hone hfa HR
              go_wp2_with fail
              go_roundw
              case rel => exact ⟨k + 1, by omega, by omega, by go_num, by rw [HX.out], HN.out _ rfl⟩
              case measure => simp [intOf]; omega
            · have hzero : v / 2 ^ k % 2 = 0 := by omega
              rw [hzero] at hbt
              have HN : Hid (HarmRel w w1.heap.size (nats (bytesI S)) f v (k + 1) wr) := by
                obtain ⟨cs, hfa, hcb, hcl, hcv, hb, hgg⟩ := HR.out
                exact ⟨cs, hfa, hcb, hcl, by rw [low_same hzero]; exact hcv, hb, hgg⟩
              have HX := Lib.hid (chg_no hzero)
              clear hzero hone HR
              go_wp2_with fail
              go_roundw
              case rel => exact ⟨k + 1, by omega, by omega, by go_num, by rw [HX.out], HN⟩
              case measure => simp [intOf]; omega
          · obtain ⟨cs, hfa, hcb, hcl, hcv, hb, hgg⟩ := HR.out
            have hcs : cs.length = S.size := by rw [hcl]; exact HBL.out
            have hconv := harm_conv (c := c0) hfa hcs
            have hsz := harmed_size cs
            have his := HI.out cs k f hcb hcl hcv hk (HA.out k hfk)
            have htr := ht.below hb
            have hdone : ¬ (decide ((k : Int) < 32) && decide ((f : Int) + (k : Int) < 8 * (S.size : Int) - 32)) = true := by
              rw [Bool.and_eq_true, decide_eq_true_iff, decide_eq_true_iff]
              omega
            have hstop : 32 ≤ k ∨ (k < 32 ∧ 8 * S.size - 32 ≤ f + k) := by omega
            clear HR hfa hcb hcl hcv hlt hdone
            generalize harmed cs = T at *
            rcases hstop with hstop | ⟨hstop1, hstop2⟩
            all_goals
              go_wp2_with fail
              refine (Open_any T wr (by unfold maxLen; omega) htr).mono ?_
              rintro e w5 ⟨rfl, hb5⟩
              have hb05 := hb.trans (hb5.mono hb.size)
              have ht5 := ht.below hb05
              clear hb hb5 htr hconv
              obtain ⟨p, hp⟩ : ∃ p, chg v k = p := ⟨_, rfl⟩
              rw [hp] at his
              cases p
              · rw [openOut_yes (by simpa using his)]
                go_wp2_with fail
                refine (wakes_any _ ht5).mono ?_
                rintro e w7 ⟨rfl, hb7⟩
                have hb07 := hb05.trans (hb7.mono hb05.size)
                clear hb05 hb7 ht5
                go_wp2_with fail
                go_ret
                exact ⟨rfl, hb07⟩
              · rw [openOut_no (by simpa using his)]
                go_wp2_with fail
                refine (wakes_any _ ht5).mono ?_
                rintro e w7 ⟨rfl, hb7⟩
                have hb07 := hb05.trans (hb7.mono hb05.size)
                clear hb05 hb7 ht5
                go_wp2_with fail
                go_ret
                exact ⟨rfl, hb07⟩
      · have hfd : decide ((f : Int) < 8 * (S.size : Int) - 32) = false := decide_eq_false (by omega)
        have hcaseN : ∀ i, f + i ≤ 8 * S.size → (f + i ≤ 8 * (a1.size + 3) ∨ (8 * (a1.size + 3) ≤ f ∧ f + i ≤ 8 * (a1.size + 7))) := fun i hi => .inr (by have := HSZ.out; omega)
        have HA := Lib.hid hcaseN
        go_wp2_with fail
        go_loopw [14, 15] (fun u i wr => ∃ k : Nat, k ≤ 32 ∧ f + k ≤ 8 * S.size ∧ i = .int .i64 k ∧ u = .bool (chg v k) ∧ Hid (HarmRel w w1.heap.size (nats (bytesI S)) f v k wr)) (fun _ i _ => 32 - (intOf i).toNat)
        case atStart => exact ⟨0, by omega, by omega, rfl, by simp [chg, Nat.mod_one], HR⟩
        case round =>
          clear HR
          obtain ⟨k, hk, hfk, rfl, rfl, HR⟩ := hrel
          by_cases hlt : k < 32 ∧ f + k < 8 * S.size
          · obtain ⟨l1, l2⟩ := hlt
            have hbt := u32_bit v k hv
            by_cases hone : v / 2 ^ k % 2 = 1
            · rw [hone] at hbt
              obtain ⟨cs, hfa, hcb, hcl, hcv, hb, hgg⟩ := HR.out
              have hcs : cs.length = S.size := by rw [hcl]; exact HBL.out
              have hil : (f + k) / 8 < cs.length := by omega
              have hcell := hfa.cell hil
              have hfr := hfa.free hil
              have HN := Lib.hid (fun W hW => harm_next (W := W) hone hfa hcb hcl hcv hb hgg hil hW)
              have HX := Lib.hid (chg_yes hone)
              have hq := hcb _ (List.getElem_mem hil)
              clear hcl hcv hone hfa HR
              go_wp2_with fail
              go_roundw
              case rel => exact ⟨k + 1, by omega, by omega, by go_num, by rw [HX.out], HN.out _ rfl⟩
              case measure => simp [intOf]; omega
            · have hzero : v / 2 ^ k % 2 = 0 := by omega
              rw [hzero] at hbt
              have HN : Hid (HarmRel w w1.heap.size (nats (bytesI S)) f v (k + 1) wr) := by
                obtain ⟨cs, hfa, hcb, hcl, hcv, hb, hgg⟩ := HR.out
                exact ⟨cs, hfa, hcb, hcl, by rw [low_same hzero]; exact hcv, hb, hgg⟩
              have HX := Lib.hid (chg_no hzero)
              clear hzero hone HR
              go_wp2_with fail
              go_roundw
              case rel => exact ⟨k + 1, by omega, by omega, by go_num, by rw [HX.out], HN⟩
              case measure => simp [intOf]; omega
          · obtain ⟨cs, hfa, hcb, hcl, hcv, hb, hgg⟩ := HR.out
            have hcs : cs.length = S.size := by rw [hcl]; exact HBL.out
            have hconv := harm_conv (c := c0) hfa hcs
            have hsz := harmed_size cs
            have his := HI.out cs k f hcb hcl hcv hk (HA.out k hfk)
            have htr := ht.below hb
            have hdone : ¬ (decide ((k : Int) < 32) && decide ((f : Int) + (k : Int) < 8 * (S.size : Int))) = true := by
              rw [Bool.and_eq_true, decide_eq_true_iff, decide_eq_true_iff]
              omega
            have hstop : 32 ≤ k ∨ (k < 32 ∧ 8 * S.size ≤ f + k) := by omega
            clear HR hfa hcb hcl hcv hlt hdone
            generalize harmed cs = T at *
            rcases hstop with hstop | ⟨hstop1, hstop2⟩
            all_goals
              go_wp2_with fail
              refine (Open_any T wr (by unfold maxLen; omega) htr).mono ?_
              rintro e w5 ⟨rfl, hb5⟩
              have hb05 := hb.trans (hb5.mono hb.size)
              have ht5 := ht.below hb05
              clear hb hb5 htr hconv
              obtain ⟨p, hp⟩ : ∃ p, chg v k = p := ⟨_, rfl⟩
              rw [hp] at his
              cases p
              · rw [openOut_yes (by simpa using his)]
                go_wp2_with fail
                refine (wakes_any _ ht5).mono ?_
                rintro e w7 ⟨rfl, hb7⟩
                have hb07 := hb05.trans (hb7.mono hb05.size)
                clear hb05 hb7 ht5
                go_wp2_with fail
                go_ret
                exact ⟨rfl, hb07⟩
              · rw [openOut_no (by simpa using his)]
                go_wp2_with fail
                refine (wakes_any _ ht5).mono ?_
                rintro e w7 ⟨rfl, hb7⟩
                have hb07 := hb05.trans (hb7.mono hb05.size)
                clear hb05 hb7 ht5
                go_wp2_with fail
                go_ret
                exact ⟨rfl, hb07⟩
    · have g4' : a0 < 1 := by omega
      clear g4
      go_enter Tryd.func6, Tryd.ntmps6
      go_wp2_with fail
      refine (wakes_any _ ht).mono ?_
      rintro e w6 ⟨rfl, hb6⟩
      go_wp2_with fail
      go_ret
      exact ⟨rfl, hb6⟩
  · have g1' : 505 < a1.size := by omega
    clear g1
    go_enter Tryd.func6, Tryd.ntmps6
    go_wp2_with fail
    refine (wakes_any _ ht).mono ?_
    rintro e w6 ⟨rfl, hb6⟩
    go_wp2_with fail
    go_ret
    exact ⟨rfl, hb6⟩

/-! ### THE ROW's STEP: WRITTEN OUT: LEAVE IT -/
set_option maxRecDepth 100000 in
theorem lifted (os : Os) (started : os.Started) (H : Type) (enc : TypeId × Value → H) :
    ReturnsInHanded {} Tryd.checked os 6 .any (fun w args => (Rows.sealHarmSpec.pre enc Tryd.prog Tryd.f6 [] false w args ∧ laidMetH Tryd.prog laidL w) ∧ sizedMet enc Tryd.prog Tryd.f6 (OpenSpec.ofChange Rows.sealHarmSpec) false w args) (Rows.sealHarmSpec.post enc Tryd.prog Tryd.f6 false true false false) := by
  refine returnsInHanded_of_change_and (C := Tryd.checked) (X := fun w _ => laidMetH Tryd.prog laidL w) (fun _ _ _ hh h => h.of_heap hh) own started (by kernel_rfl) Tryd.func6
    (ChangeSpec.witness_shaped (enc := enc) (C := Tryd.checked) (os := os) (X := fun w _ => laidMetH Tryd.prog laidL w) false (World.doorLaid Tryd.prog 14 os) #[.int .i8 0, .string ByteArray.empty, .int .i64 0, .int .u32 0] 8 rfl (World.shaped_of_RefB (by kernel_rfl) (by kernel_rfl)) (by kernel_rfl) (by kernel_rfl) (by kernel_rfl) (door_met os _)) ?_
  intro W base args ds gs before hval0 hW _ _ hL _
  have hval : ∀ (j : Nat) t v, Tryd.f6.params[j]? = some t → args[j]? = some v → Value.okWide Tryd.prog W .any base t v := hval0
  have hW' := hW
  obtain ⟨p, q, hA0, hV, rfl, hfz, hnd⟩ := hW
  have hA : DataW.TrodAll enc Tryd.prog W 0 (fun _ => true) true Tryd.f6.params.toList args.toList ds p := hA0
  rw [Tryd.params6] at hA hval
  obtain ⟨v0, vs0, d0, ds0, p0, q0, hargs, rfl, rfl, h0, r0⟩ := trodAll_cons hA
  obtain ⟨v1, vs1, d1, ds1, p1, q1, rfl, rfl, rfl, h1, r1⟩ := trodAll_cons r0
  obtain ⟨v2, vs2, d2, ds2, p2, q2, rfl, rfl, rfl, h2, r2⟩ := trodAll_cons r1
  obtain ⟨v3, vs3, d3, ds3, p3, q3, rfl, rfl, rfl, h3, r3⟩ := trodAll_cons r2
  obtain ⟨rfl, rfl, rfl⟩ := trodAll_nil r3
  obtain rfl : args = #[v0, v1, v2, v3] := by cases args; simp_all
  obtain ⟨rfl, rfl⟩ := trodVars_none hV
  obtain ⟨a0, rfl, rfl, rfl, w0⟩ := open_int Tryd.underlying22 (hval 0 22 v0 rfl rfl) h0
  obtain ⟨a1, rfl, rfl, rfl, w1⟩ := open_string Tryd.underlying9 (hval 1 9 v1 rfl rfl) h1
  obtain ⟨a2, rfl, rfl, rfl, w2⟩ := open_int Tryd.underlying3 (hval 2 3 v2 rfl rfl) h2
  obtain ⟨a3, rfl, rfl, rfl, w3⟩ := open_int Tryd.underlying36 (hval 3 36 v3 rfl rfl) h3
  clear hA0 hval0
  refine (walk a0 a1 a2 a3 w0 w1 w2 w3 W (met_of_laid hL)).mono fun e W' ⟨he, hg⟩ => ?_
  subst he
  exact ⟨_, rfl, _, _, _, [], _, [], hW', trodAll_mk1 (shut_bool Tryd.underlying4 _), (trodAll_cons_mk (shut_int Tryd.underlying22 w0) (trodAll_cons_mk (shut_string Tryd.underlying9 w1) (trodAll_cons_mk (shut_int Tryd.underlying3 w2) (trodAll_cons_mk (shut_int Tryd.underlying36 w3) trodAll_mk0)))), rfl, hg.frame _, fun h => by cases h⟩

theorem over : Rows.sealHarmRow.holds Tryd.pinned (OpenSpec.ofChange Rows.sealHarmSpec) :=
  OpenClaim.holds_of_wide 6 Tryd.f6 rfl rfl rfl rfl rfl rfl rfl ⟨rfl, rfl, rfl, rfl, rfl⟩ rfl rfl rfl rfl rfl (by kernel_rfl) Tryd.func6 (by kernel_rfl)
    (of_decide_eq_true (by kernel_rfl)) (by unfold Func.isWrapper; first | (rw [if_pos (by decide +kernel)]; kernel_rfl) | (rw [if_neg (by decide +kernel)]; exact ⟨rfl, rfl⟩))
    (fun os started H enc _ => lifted os started H enc)

/-- ████ THE STATEMENT ████ -/
theorem proved : Rows.SealHarmSaid :=
  over
#print axioms proved

/-- THE TIED CARD. -/
theorem card : Rows.SealHarmCardSaid :=
  Claim7.holds_tied_plain_at .later [] [.data] true (true, "13dc331e1975aa81921650795ae8cf8570dddbb58092df3655d18c083ec1526f") false
    proved (fun _ h => by cases h) (by kernel_rfl) (fun _ h => by cases h) sealHarm_row_tie rfl ⟨rfl, rfl⟩ (by kernel_rfl) rfl
    (fun f fn hf hfn => by
      obtain rfl : f = 6 := Option.some.inj ((show Tryd.prog.funcNamed "breakwater/breakwaterlaw03.SealHarm" = some 6 by kernel_rfl).symm.trans hf) |>.symm
      obtain rfl : fn = Tryd.f6 := (Option.some.inj (Tryd.func6.symm.trans hfn)).symm
      exact ⟨by kernel_rfl, fun j t ht => by
        rw [Tryd.params6] at ht
        have hm : t ∈ [22, 9, 3, 36] := by simpa using Array.mem_of_getElem? ht
        have hall : ([22, 9, 3, 36].all fun u => !Tryd.prog.wantsStandIn u) = true := by kernel_rfl
        exact (show Tryd.prog.wantsStandIn t = false by simpa using List.all_eq_true.1 hall t hm)⟩)
    (by kernel_rfl)
#print axioms card
end Go.Proofs.YtmnaemfijplnkaaDoor.sealHarm
