/-
  Harm to a sealed sector, as mathematics: bits side by side, all ahead of the sum or all in it, are told.
-/
import Derived.Test.YtgllamjgagbblaaDoorSealWakes
namespace Go.Proofs.YtgllamjgagbblaaDoor
open Go.RowKit
set_option linter.unusedVariables false
set_option linter.unusedSimpArgs false

theorem xor_div (x y n : Nat) : (x ^^^ y) / 2 ^ n = x / 2 ^ n ^^^ y / 2 ^ n := by
  have h := Nat.shiftRight_xor_distrib (a := x) (b := y) (i := n)
  rwa [Nat.shiftRight_eq_div_pow, Nat.shiftRight_eq_div_pow, Nat.shiftRight_eq_div_pow] at h
theorem val_cons_mod {b : Nat} (l : List Nat) (hb : b < 256) : val (b :: l) % 256 = b := by
  have h := Nat.xor_mod_two_pow (a := b) (b := val l * 256) (n := 8)
  show (b ^^^ val l * 256) % 2 ^ 8 = b
  rw [h, show (2 : Nat) ^ 8 = 256 from rfl, Nat.mul_mod_left, Nat.xor_zero, Nat.mod_eq_of_lt hb]
theorem val_cons_div {b : Nat} (l : List Nat) (hb : b < 256) : val (b :: l) / 256 = val l := by
  have h := xor_div b (val l * 256) 8
  show (b ^^^ val l * 256) / 2 ^ 8 = val l
  rw [h, show (2 : Nat) ^ 8 = 256 from rfl, Nat.mul_div_cancel _ (by decide), Nat.div_eq_of_lt hb, Nat.zero_xor]
theorem val_lt {l : List Nat} (h : Bytes l) : val l < 2 ^ (8 * l.length) := by
  induction l with
  | nil => show 0 < 1; omega
  | cons b l ih =>
    have h1 := h b (by simp)
    have h2 := ih (fun c hc => h c (by simp [hc]))
    have e := val_cons_div l h1
    have hp : 2 ^ (8 * (b :: l).length) = 256 * 2 ^ (8 * l.length) := by
      rw [List.length_cons, show 8 * (l.length + 1) = 8 * l.length + 8 by omega, Nat.pow_add, Nat.mul_comm]
    rw [hp]
    have := Nat.div_add_mod (val (b :: l)) 256
    have hm := Nat.mod_lt (val (b :: l)) (show 256 > 0 by decide)
    omega
theorem val_inj {l m : List Nat} (hl : Bytes l) (hm : Bytes m) (hlen : l.length = m.length) (h : val l = val m) : l = m := by
  induction l generalizing m with
  | nil => exact (List.eq_nil_of_length_eq_zero hlen.symm).symm
  | cons b l ih =>
    cases m with
    | nil => simp at hlen
    | cons c m =>
      have b1 := hl b (by simp)
      have c1 := hm c (by simp)
      have e1 : b = c := by rw [← val_cons_mod l b1, ← val_cons_mod m c1, h]
      have e2 : val l = val m := by rw [← val_cons_div l b1, ← val_cons_div m c1, h]
      rw [e1, ih (fun x hx => hl x (by simp [hx])) (fun x hx => hm x (by simp [hx])) (by simpa using hlen) e2]
theorem val_append (l m : List Nat) : val (l ++ m) = val l ^^^ val m * 2 ^ (8 * l.length) := by
  induction l with
  | nil => show val m = 0 ^^^ val m * 2 ^ 0; rw [Nat.zero_xor, Nat.pow_zero, Nat.mul_one]
  | cons b l ih =>
    show b ^^^ val (l ++ m) * 256 = (b ^^^ val l * 256) ^^^ val m * 2 ^ (8 * (l.length + 1))
    rw [ih, show 8 * (l.length + 1) = 8 * l.length + 8 by omega, Nat.pow_add, ← Nat.mul_assoc, Nat.xor_assoc]
    congr 1
    exact shl_xor _ _ 8
theorem val_head {l m : List Nat} (h : Bytes l) : val (l ++ m) % 2 ^ (8 * l.length) = val l := by
  rw [val_append, Nat.xor_mod_two_pow, Nat.mul_mod_left, Nat.xor_zero, Nat.mod_eq_of_lt (val_lt h)]
theorem val_tail {l m : List Nat} (h : Bytes l) : val (l ++ m) / 2 ^ (8 * l.length) = val m := by
  rw [val_append, xor_div, Nat.mul_div_cancel _ (Nat.two_pow_pos _), Nat.div_eq_of_lt (val_lt h), Nat.zero_xor]

/-- Plain numbers as bytes. -/
def ints (l : List Nat) : List Int := l.map fun n : Nat => (n : Int)
theorem ints_length (l : List Nat) : (ints l).length = l.length := by simp [ints]
theorem ints_bytes {l : List Nat} (h : Bytes l) : IsBytes (ints l) := by
  intro b hb
  obtain ⟨n, hn, rfl⟩ := List.mem_map.1 hb
  have := h n hn
  omega
theorem nats_ints (l : List Nat) : nats (ints l) = l := by
  unfold nats ints
  rw [List.map_map]
  have : (Int.toNat ∘ fun n : Nat => (n : Int)) = id := by
    funext n
    simp
  rw [this, List.map_id]
theorem ints_nats {l : List Int} (h : IsBytes l) : ints (nats l) = l := nats_inj (ints_bytes (bytes_nats h)) h (nats_ints _)
theorem ints_append (l m : List Nat) : ints (l ++ m) = ints l ++ ints m := by simp [ints]

theorem dec_inj {l m : List Int} (hl : IsBytes l) (hm : IsBytes m) (hlen : l.length = m.length) (h : dec l = dec m) : l = m := by
  rw [← enc_dec hl, ← enc_dec hm, hlen, h]
theorem last_append {h t : List Int} (ht : t.length = 4) : lastI (h ++ t) = dec t := by
  unfold lastI
  rw [List.length_append, ht, Nat.add_sub_cancel, List.drop_left, List.take_of_length_le (by omega)]

theorem harm_iff {k : Int} {l : List Int} (hk1 : 1 ≤ k) (hk2 : k ≤ 127) (hl : IsBytes l) (hl5 : l.length ≤ 505) {c : List Nat} (hcb : Bytes c) (hcl : c.length = l.length + 7) {v i f : Nat}
    (hv : val c = val (nats (sealI k l)) ^^^ v % 2 ^ i * 2 ^ f) (hi : i ≤ 32) (hcase : f + i ≤ 8 * (l.length + 3) ∨ (8 * (l.length + 3) ≤ f ∧ f + i ≤ 8 * (l.length + 7))) :
    isI (ints c) = decide (v % 2 ^ i = 0) := by
  have hsb : IsBytes (sealI k l) := sealI_bytes (by omega) (by omega) hl
  have hslen := sealI_length k l
  by_cases hz : v % 2 ^ i = 0
  · rw [decide_eq_true hz]
    rw [hz, Nat.zero_mul, Nat.xor_zero] at hv
    have e : c = nats (sealI k l) := val_inj hcb (bytes_nats hsb) (by rw [nats_length, hslen, hcl]) hv
    rw [e, ints_nats hsb]
    exact isI_seal hk1 hk2 hl5
  · rw [decide_eq_false hz]
    rcases hh : isI (ints c) with _ | _
    · rfl
    · exfalso
      -- the two rows' parts
      have hhb : IsBytes (headI k l) := headI_bytes (by omega) (by omega) hl
      have hhl := headI_length k l
      have hch : c = c.take (l.length + 3) ++ c.drop (l.length + 3) := (List.take_append_drop _ _).symm
      have hhc : (c.take (l.length + 3)).length = l.length + 3 := by rw [List.length_take]; omega
      have htc : (c.drop (l.length + 3)).length = 4 := by rw [List.length_drop]; omega
      have hhcb : Bytes (c.take (l.length + 3)) := fun b hb => hcb b (List.mem_of_mem_take hb)
      have htcb : Bytes (c.drop (l.length + 3)) := fun b hb => hcb b (List.mem_of_mem_drop hb)
      generalize c.take (l.length + 3) = hc at *
      generalize c.drop (l.length + 3) = tc at *
      have hsplit : nats (sealI k l) = nats (headI k l) ++ nats (enc 4 (sumI (headI k l) : Nat)) := by unfold sealI; rw [nats_append]
      have hhn : (nats (headI k l)).length = l.length + 3 := by rw [nats_length, hhl]
      have hhnb := bytes_nats hhb
      have htn : (nats (enc 4 (sumI (headI k l) : Nat))).length = 4 := by rw [nats_length, enc_length]
      have htnb := bytes_nats (enc_bytes 4 (sumI (headI k l) : Nat))
      have hsum : ((sumI (headI k l) : Nat) : Int) = dec (enc 4 (sumI (headI k l) : Nat)) := by
        have := sumI_lt hhb
        exact (dec_enc 4 _ (by omega) (show ((sumI (headI k l) : Nat) : Int) < 4294967296 by omega)).symm
      -- what a sector says of the harmed row
      have hlast : dec (ints tc) = ((sumS hc : Nat) : Int) := by
        have h := ((isI_iff (ints_bytes hcb) (by rw [ints_length]; omega) (by rw [ints_length]; omega)).1 hh).2.2.2
        rw [ints_length, hcl, show l.length + 7 - 4 = l.length + 3 by omega] at h
        rw [hch, ints_append] at h
        rw [last_append (by rw [ints_length]; exact htc), List.take_left' (by rw [ints_length]; exact hhc)] at h
        rw [h]
        unfold sumI
        rw [nats_ints]
      have hvh := val_head (m := tc) hhcb
      have hvt := val_tail (m := tc) hhcb
      rw [← hch, hhc, hv, hsplit] at hvh hvt
      rw [xor_div, ← hhn, val_tail hhnb] at hvt
      rw [Nat.xor_mod_two_pow, ← hhn, val_head hhnb] at hvh
      rw [hhn] at hvh hvt
      have hD : v % 2 ^ i < 2 ^ i := Nat.mod_lt _ (Nat.two_pow_pos _)
      rcases hcase with h1 | ⟨h1, h2⟩
      · -- all ahead of the sum
        have hE : v % 2 ^ i * 2 ^ f < 2 ^ (8 * (l.length + 3)) := by
          have e1 : v % 2 ^ i * 2 ^ f < 2 ^ i * 2 ^ f := Nat.mul_lt_mul_of_pos_right hD (Nat.two_pow_pos _)
          rw [← Nat.pow_add, Nat.add_comm] at e1
          exact Nat.lt_of_lt_of_le e1 (Nat.pow_le_pow_right (by decide) h1)
        rw [Nat.div_eq_of_lt hE, Nat.xor_zero] at hvt
        rw [Nat.mod_eq_of_lt hE] at hvh
        have et : nats (enc 4 (sumI (headI k l) : Nat)) = tc := val_inj htnb htcb (by rw [htn, htc]) hvt
        rw [← et, ints_nats (enc_bytes _ _), ← hsum] at hlast
        have hs : sumS hc = sumS (nats (headI k l)) := by
          have h : ((sumI (headI k l) : Nat) : Int) = ((sumS hc : Nat) : Int) := hlast
          have h' : sumI (headI k l) = sumS hc := by omega
          exact h'.symm
        exact hz ((harm_sum (by rw [hhc, hhn]) hvh.symm hi (by rw [hhn]; omega)).1 hs)
      · -- all in the sum
        obtain ⟨g, rfl⟩ : ∃ g, f = 8 * (l.length + 3) + g := ⟨f - 8 * (l.length + 3), by omega⟩
        have hE : v % 2 ^ i * 2 ^ (8 * (l.length + 3) + g) = v % 2 ^ i * 2 ^ g * 2 ^ (8 * (l.length + 3)) := by
          rw [Nat.pow_add, Nat.mul_comm (2 ^ (8 * (l.length + 3))), Nat.mul_assoc]
        rw [hE, Nat.mul_mod_left, Nat.xor_zero] at hvh
        rw [hE, Nat.mul_div_cancel _ (Nat.two_pow_pos _)] at hvt
        have eh : nats (headI k l) = hc := val_inj hhnb hhcb (by rw [hhn, hhc]) hvh
        have hs : dec (ints tc) = dec (enc 4 (sumI (headI k l) : Nat)) := by
          rw [hlast, ← eh]
          exact hsum
        have et : ints tc = enc 4 (sumI (headI k l) : Nat) := dec_inj (ints_bytes htcb) (enc_bytes _ _) (by rw [ints_length, htc, enc_length]) hs
        have et2 : tc = nats (enc 4 (sumI (headI k l) : Nat)) := by rw [← et, nats_ints]
        rw [← et2] at hvt
        have hcan : v % 2 ^ i * 2 ^ g = 0 := by
          have h := congrArg (fun x => val tc ^^^ x) hvt
          rw [xcan, Nat.xor_self] at h
          exact h
        rcases Nat.mul_eq_zero.1 hcan with h | h
        · exact hz h
        · exact absurd h (Nat.ne_of_gt (Nat.two_pow_pos g))

end Go.Proofs.YtgllamjgagbblaaDoor
