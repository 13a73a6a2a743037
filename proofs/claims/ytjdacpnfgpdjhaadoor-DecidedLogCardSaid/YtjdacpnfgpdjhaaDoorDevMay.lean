/-
  The program's device: a sector that there is, a key that was given; whether sectors, nodes, keys, fenced keys may be: by contract.
-/
import Derived.Test.YtjdacpnfgpdjhaaDoorDevKeys
namespace Go.Proofs.YtjdacpnfgpdjhaaDoor
open Go.RowKit
set_option linter.unusedVariables false
set_option linter.unusedSimpArgs false

def hasB (n : Nat) (s : Int) : Bool := decide (0 ≤ s ∧ s < (n : Int))
theorem hasD_any (v : Value) (D : Dev) (s : Int) (B : Nat) (w : World) (hD : DevAt w B v D) :
    Calls Tryd.prog 104 #[v, .int .i64 s] w fun e w' => e = .returned (.bool (hasB D.S.length s)) ∧ Below w.heap.size w w' := by
  obtain ⟨vS, vC, vK, vF, rfl, ⟨aS, cS, rfl, _⟩, _, _, _⟩ := hD
  generalize D.S.length = nS
  generalize D.n = n
  have hb := below_alloc w (.cells #[.slice aS nS cS, vC, vK, .int .i64 n, vF] 126)
  by_cases h0 : 0 ≤ s
  · by_cases h1 : s < (nS : Int)
    · have HO : Hid (hasB nS s = true) := decide_eq_true ⟨h0, h1⟩
      go_enter Tryd.func104, Tryd.ntmps104
      go_wp2_with fail
      go_ret
      exact ⟨by rw [HO.out]; rfl, hb⟩
    · have HO : Hid (hasB nS s = false) := decide_eq_false fun h => h1 h.2
      have hd : decide (s < (nS : Int)) = false := decide_eq_false h1
      go_enter Tryd.func104, Tryd.ntmps104
      go_wp2_with fail
      go_ret
      exact ⟨by rw [HO.out]; rfl, hb⟩
  · have HO : Hid (hasB nS s = false) := decide_eq_false fun h => h0 h.1
    have hd : decide (0 ≤ s) = false := decide_eq_false h0
    go_enter Tryd.func104, Tryd.ntmps104
    go_wp2_with fail
    go_ret
    exact ⟨by rw [HO.out]; rfl, hb⟩

set_option maxRecDepth 100000 in
theorem given_any (v : Value) (D : Dev) (key : Int) (B : Nat) (w : World) (hD : DevAt w B v D) (h0 : -9223372036854775808 ≤ key) (h1 : key ≤ 9223372036854775807) :
    Calls Tryd.prog 105 #[v, .int .i64 key] w fun e w' => e = .returned (.bool (decide (Given D.K.length D.n key))) ∧ Below w.heap.size w w' := by
  obtain ⟨vS, vC, vK, vF, rfl, _, _, ⟨aK, cK, rfl, hKc, hKm, _⟩, _⟩ := hD
  generalize D.n = n
  generalize D.K.length = nK at *
  unfold maxLen at hKm
  have hb := below_alloc w (.cells #[vS, vC, .slice aK nK cK, .int .i64 n, vF] 126)
  by_cases hk : 16 ≤ key
  · have hq : (1 : Int) ≤ key / 16 := by omega
    by_cases h2 : key / 16 < n
    · by_cases h3 : key % 16 < (nK : Int)
      · have HO : Hid (decide (Given nK n key) = true) := decide_eq_true ⟨hk, h2, h3⟩
        go_enter Tryd.func105, Tryd.ntmps105
        go_wp2_with fail
        go_ret
        exact ⟨by rw [HO.out]; rfl, hb⟩
      · have HO : Hid (decide (Given nK n key) = false) := decide_eq_false fun h => h3 h.2.2
        have h3' : decide (key % 16 < (nK : Int)) = false := decide_eq_false h3
        go_enter Tryd.func105, Tryd.ntmps105
        go_wp2_with fail
        go_ret
        exact ⟨by rw [HO.out]; rfl, hb⟩
    · have HO : Hid (decide (Given nK n key) = false) := decide_eq_false fun h => h2 h.2.1
      have hd : decide (key / 16 < n) = false := decide_eq_false h2
      go_enter Tryd.func105, Tryd.ntmps105
      go_wp2_with fail
      go_ret
      exact ⟨by rw [HO.out]; rfl, hb⟩
  · have HO : Hid (decide (Given nK n key) = false) := decide_eq_false fun h => hk h.1
    by_cases h5 : 0 ≤ key
    · have hd : decide ((1 : Int) ≤ key / 16) = false := decide_eq_false (by omega)
      go_enter Tryd.func105, Tryd.ntmps105
      go_wp2_with fail
      go_ret
      exact ⟨by rw [HO.out]; rfl, hb⟩
    · have hd : decide ((1 : Int) ≤ key.tdiv 16) = false := decide_eq_false (by
        intro h
        have := Int.tdiv_nonneg (a := -key) (b := 16) (by omega) (by omega)
        rw [Int.neg_tdiv] at this
        omega)
      go_enter Tryd.func105, Tryd.ntmps105
      go_wp2_with fail
      go_ret
      exact ⟨by rw [HO.out]; rfl, hb⟩

/-- Whether the sectors may be. -/
def sMayB (S : List ByteArray) : Bool := decide (0 < S.length) && !(S.any tooL)
theorem sMay_iff (S : List ByteArray) : sMayB S = true ↔ 1 ≤ S.length ∧ ∀ s ∈ S, s.size ≤ 512 := by
  unfold sMayB
  rw [Bool.and_eq_true, decide_eq_true_eq, Bool.not_eq_true', List.any_eq_false]
  constructor
  · rintro ⟨h1, h2⟩
    exact ⟨h1, fun s hs => by have := h2 s hs; unfold tooL at this; simp at this; omega⟩
  · rintro ⟨h1, h2⟩
    exact ⟨h1, fun s hs => by have := h2 s hs; unfold tooL; simp; omega⟩

set_option maxRecDepth 100000 in
theorem sectorsMay_any (v : Value) (D : Dev) (w : World) (hD : DevAt w w.heap.size v D) :
    Calls Tryd.prog 97 #[v] w fun e w' => e = .returned (.bool (sMayB D.S)) ∧ Below w.heap.size w w' := by
  obtain ⟨vS, vC, vK, vF, rfl, ⟨aS, cS, rfl, hSc, hSm, hS⟩, _, _, _⟩ := hD
  obtain ⟨nS, hl⟩ : ∃ n, D.S.length = n := ⟨_, rfl⟩
  rw [hl] at hS hSc ⊢
  generalize D.S = S at *
  generalize D.n = n
  obtain ⟨W0, hW⟩ : ∃ W0, W0 = w.alloc (.cells #[.slice aS nS cS, vC, vK, .int .i64 n, vF] 126) := ⟨_, rfl⟩
  have hb : Below w.heap.size w W0 := hW ▸ below_alloc w _
  by_cases h0 : 0 < nS
  · have hcall := hasLong_any aS nS cS _ S W0 (lies_up hS hb) hl (by omega)
    have HO : Hid (sMayB S = !(S.any tooL)) := by show sMayB S = _; unfold sMayB; rw [decide_eq_true (by omega)]; rfl
    have h0' : (0 : Int) < (nS : Int) := by omega
    clear hS hl
    go_enter Tryd.func97, Tryd.ntmps97
    go_wp2_with fail
    rw [← hW]
    clear hW
    refine hcall.mono ?_
    rintro e w' ⟨rfl, rfl⟩
    go_wp2_with fail
    go_ret
    exact ⟨by rw [HO.out]; rfl, hb⟩
  · have HO : Hid (sMayB S = false) := by show sMayB S = _; unfold sMayB; rw [decide_eq_false (by omega)]; rfl
    obtain rfl : nS = 0 := by omega
    clear hS hl h0
    go_enter Tryd.func97, Tryd.ntmps97
    go_wp2_with fail
    go_ret
    exact ⟨by rw [HO.out]; rfl, hW ▸ hb⟩

set_option maxRecDepth 100000 in
theorem nodesMay_yes (v : Value) (D : Dev) (B : Nat) (w : World) (hD : DevAt w B v D) (hm : MayD D) :
    Calls Tryd.prog 98 #[v] w fun e w' => e = .returned (.bool true) ∧ Below w.heap.size w w' := by
  obtain ⟨vS, vC, vK, vF, rfl, _, ⟨aC, cC, rfl, _⟩, ⟨aK, cK, rfl, _⟩, _⟩ := hD
  have h1 := hm.k1
  have h2 := hm.k16
  rw [hm.ck]
  generalize D.n = n
  clear hm
  generalize D.K.length = nK at *
  have h1' : (1 : Int) ≤ (nK : Int) := by omega
  have h2' : (nK : Int) ≤ 16 := by omega
  have hb := below_alloc w (.cells #[vS, .slice aC nK cC, .slice aK nK cK, .int .i64 n, vF] 126)
  go_enter Tryd.func98, Tryd.ntmps98
  go_wp2_with fail
  go_ret
  exact ⟨rfl, hb⟩

/-- The cells of a device that is boxed. -/
structure Box5 (w : World) (b : Nat) (vS vC vK : Value) (n : Int) (vF : Value) : Prop where
  c0 : w.cell? ⟨b, 0, none⟩ = some vS
  c1 : w.cell? ⟨b, 1, none⟩ = some vC
  c2 : w.cell? ⟨b, 2, none⟩ = some vK
  c3 : w.cell? ⟨b, 3, none⟩ = some (.int .i64 n)
  c4 : w.cell? ⟨b, 4, none⟩ = some vF
theorem Box5.below {w w' : World} {b B : Nat} {vS vC vK vF : Value} {n : Int} (h : Box5 w b vS vC vK n vF) (hb : Below B w w') (hB : b < B) : Box5 w' b vS vC vK n vF := by
  have key : ∀ o, w'.cell? ⟨b, o, none⟩ = w.cell? ⟨b, o, none⟩ := fun o => hb.cell (p := ⟨b, o, none⟩) hB
  exact ⟨(key _).trans h.c0, (key _).trans h.c1, (key _).trans h.c2, (key _).trans h.c3, (key _).trans h.c4⟩
theorem Box5.new (w : World) (vS vC vK vF : Value) (n : Int) (T : TypeId) : Box5 (w.alloc (.cells #[vS, vC, vK, .int .i64 n, vF] T)) w.heap.size vS vC vK n vF := by
  have p := Blk.new w #[vS, vC, vK, .int .i64 n, vF] T
  exact ⟨p.cell 0 _ rfl, p.cell 1 _ rfl, p.cell 2 _ rfl, p.cell 3 _ rfl, p.cell 4 _ rfl⟩

theorem key_bd {nk : Nat} {n x : Int} (h : Given nk n x) (hn : n ≤ 68719476736) : -9223372036854775808 ≤ x ∧ x ≤ 9223372036854775807 := by
  have := h.1; have := h.2.1; omega

set_option maxRecDepth 100000 in
set_option maxHeartbeats 1000000 in
theorem keysMay_yes (v : Value) (D : Dev) (w : World) (hD : DevAt w w.heap.size v D) (hm : MayD D) :
    Calls Tryd.prog 100 #[v] w fun e w' => e = .returned (.bool true) ∧ Below w.heap.size w w' := by
  have hD0 := hD
  obtain ⟨vS, vC, vK, vF, rfl, _, _, ⟨aK, cK, rfl, hKc, hKm, hK⟩, _⟩ := hD
  have n1 := hm.n1
  have n2 := hm.n2
  have HKS := Lib.hid hm.ks
  have HG : Hid (∀ x : Int, Given D.K.length D.n x → decide (Given D.K.length D.n x) = true ∧ x.tmod 16 = x % 16 ∧ -9223372036854775808 ≤ x ∧ x ≤ 9223372036854775807) := fun x h => ⟨decide_eq_true h, (div16 h.1).2, (key_bd h n2).1, (key_bd h n2).2⟩
  have h16 := hm.k16
  clear hm
  obtain ⟨W0, hW⟩ : ∃ W0, W0 = w.alloc (.cells #[vS, vC, .slice aK D.K.length cK, .int .i64 D.n, vF] 126) := ⟨_, rfl⟩
  have hb : Below w.heap.size w W0 := hW ▸ below_alloc w _
  have hlt : w.heap.size < W0.heap.size := by rw [hW]; simp
  have p0 : Box5 W0 w.heap.size vS vC (.slice aK D.K.length cK) D.n vF := hW ▸ Box5.new w _ _ _ _ _ _
  have HK := lies_up hK hb
  have HD := Lib.hid (hD0.up hb)
  have c2 := p0.c2
  have c3 := p0.c3
  clear hK hD0
  obtain ⟨nK, hKl⟩ : ∃ n, D.K.length = n := ⟨_, rfl⟩
  rw [hKl] at HK hKc c2 p0 hW h16 HKS HG
  unfold maxLen at hKm
  go_enter Tryd.func100, Tryd.ntmps100
  go_wp2_with fail
  rw [← hW]
  clear hW c2 c3
  go_loopw [3, 4, 19] (fun _ _ i wr => ∃ k : Nat, k ≤ nK ∧ i = .int .i64 (k : Int) ∧ Below W0.heap.size W0 wr) (fun _ _ i _ => nK - (intOf i).toNat)
  case atStart => exact ⟨0, Nat.zero_le _, rfl, Below.refl _ _⟩
  case round =>
    obtain ⟨k, hk, rfl, hbr⟩ := hrel
    by_cases hlk : k < nK
    · have hin : k < D.K.length := by omega
      obtain ⟨ad, e1, _, hc⟩ := int_at (lies_up HK hbr) hlk hin
      subst e1
      obtain ⟨x, hx⟩ : ∃ x, D.K[k]'hin = x := ⟨_, rfl⟩
      have HX := HKS.out k x (by rw [List.getElem?_eq_getElem hin, hx])
      rw [hx] at hc
      have q := p0.below hbr hlt
      have q0 := q.c0
      have q1 := q.c1
      have q2 := q.c2
      have q3 := q.c3
      have q4 := q.c4
      have HDr := Lib.hid (HD.out.up hbr)
      clear q hx HK HD p0
      by_cases h0 : x = 0
      · subst h0
        go_wp2_with fail
        go_roundw
        case rel => exact ⟨k + 1, by omega, by go_num, hbr⟩
        case measure => simp [intOf]; omega
      · rcases HX with h5 | ⟨hg, hmod⟩
        · exact absurd h5 h0
        · obtain ⟨g1, g2, g3, g4⟩ := HG.out x hg
          have hcall := given_any _ D x _ wr HDr.out g3 g4
          rw [hKl, g1] at hcall
          have hne : (x == 0) = false := by simpa using h0
          have hmm : x.tmod 16 = (k : Int) := g2.trans hmod
          have hne2 : (x != 0) = true := by simpa using h0
          clear g1 g2 hmod hg HDr HG HKS
          go_wp2_with fail
          refine hcall.mono ?_
          rintro e w' ⟨rfl, hb2⟩
          go_wp2_with fail
          go_roundw
          case rel => exact ⟨k + 1, by omega, by go_num, hbr.trans (hb2.mono hbr.size)⟩
          case measure => simp [intOf]; omega
    · have hkn : k = nK := by omega
      go_wp2_with fail
      go_ret
      exact ⟨rfl, below_then hb hbr⟩

end Go.Proofs.YtjdacpnfgpdjhaaDoor
