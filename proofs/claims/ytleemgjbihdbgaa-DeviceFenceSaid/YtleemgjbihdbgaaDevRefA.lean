/-
  The document's own device: where a sector stands in a cache; whether a key was given, is fenced; how many a cache has: by contract.
-/
import Derived.Test.YtleemgjbihdbgaaJoinNumRefPut
import Derived.Test.YtleemgjbihdbgaaAid
import Derived.RegionTactic
import Derived.BigQuiet
namespace Go.Proofs.Ytleemgjbihdbgaa
open Go.RowKit
set_option linter.unusedVariables false
set_option linter.unusedSimpArgs false

def placeI (l : List Cel) (s : Int) : Int := match placeO l s with | some k => (k : Int) | none => -1
theorem place_found {l : List Cel} {s : Int} {k : Nat} (hk : k < l.length) (h : ((l[k]).1 == s) = true) (hp : ∀ j : Nat, j < k → ∀ h : j < l.length, (l[j]).1 ≠ s) : placeI l s = (k : Int) := by
  have : placeO l s = some k := by
    unfold placeO
    rw [List.findIdx?_eq_some_iff_getElem]
    exact ⟨hk, h, fun j hj => by have := hp j hj (by omega); simpa using this⟩
  unfold placeI
  rw [this]
theorem place_missed {l : List Cel} {s : Int} (hp : ∀ j : Nat, j < l.length → ∀ h : j < l.length, (l[j]).1 ≠ s) : placeI l s = -1 := by
  have : placeO l s = none := by
    unfold placeO
    rw [List.findIdx?_eq_none_iff]
    intro c hc
    obtain ⟨j, hj, e⟩ := List.getElem_of_mem hc
    have := hp j hj hj
    rw [e] at this
    simpa using this
  unfold placeI
  rw [this]

set_option maxRecDepth 100000 in
set_option maxHeartbeats 1000000 in
theorem refPlace_any (A : Option Addr) (n c : Nat) (l : List Cel) (s : Int) (B : Nat) (w : World) (hA : Lies w B A (n * 2) (celV l)) (hl : l.length = n) (hn : n ≤ maxLen) :
    Calls Try.prog 30 #[.slice A n c, .int .i64 s] w fun e w' => e = .returned (.int .i64 (placeI l s)) ∧ w = w' := by
  unfold maxLen at hn
  go_enter Try.func30, Try.ntmps30
  go_wp2_with fail
  go_loopw [5] (fun i wr => ∃ k : Nat, k ≤ n ∧ i = .int .i64 (k : Int) ∧ wr = w ∧ Hid (∀ j : Nat, j < k → ∀ h : j < l.length, (l[j]).1 ≠ s)) (fun i _ => n - (intOf i).toNat)
  case atStart => exact ⟨0, Nat.zero_le _, rfl, rfl, fun j hj => by omega⟩
  case round =>
    obtain ⟨k, hk, rfl, rfl, HP⟩ := hrel
    by_cases hlt : k < n
    · obtain ⟨ad, e1, hb, h1, h2⟩ := cel_at hA hl hlt
      subst e1
      by_cases hs : ((l[k]'(by omega)).1 == s) = true
      · have HF := Lib.hid (place_found (by omega) hs HP.out)
        go_wp2_with fail
        go_ret
        exact ⟨by rw [HF.out]; rfl, rfl⟩
      · have hs' : ((l[k]'(by omega)).1 == s) = false := by simpa using hs
        have HP' : Hid (∀ j : Nat, j < k + 1 → ∀ h : j < l.length, (l[j]).1 ≠ s) := fun j hj h => by
          by_cases e : j = k
          · subst e; simpa using hs'
          · exact HP.out j (by omega) h
        clear HP hs
        go_wp2_with fail
        go_roundw
        case rel => exact ⟨k + 1, by omega, by go_num, trivial, HP'⟩
        case measure => simp [intOf]; omega
    · have hkn : k = n := by omega
      have HF := Lib.hid (place_missed (l := l) (s := s) (fun j hj h => HP.out j (by omega) h))
      go_wp2_with fail
      go_ret
      exact ⟨by rw [HF.out]; rfl, rfl⟩

theorem div16 {key : Int} (h : 16 ≤ key) : key.tdiv 16 = key / 16 ∧ key.tmod 16 = key % 16 := ⟨Int.tdiv_eq_ediv_of_nonneg (by omega), Int.tmod_eq_emod_of_nonneg (by omega)⟩

set_option maxRecDepth 100000 in
set_option maxHeartbeats 1000000 in
theorem refGiven_any (v : Value) (D : Dev) (key : Int) (B : Nat) (w : World) (hD : DevAt w B v D) (h0 : -9223372036854775808 ≤ key) (h1 : key ≤ 9223372036854775807) :
    Calls Try.prog 27 #[v, .int .i64 key] w fun e w' => e = .returned (.bool (decide (Given D.K.length D.n key))) ∧ Below w.heap.size w w' := by
  obtain ⟨vS, vC, vK, vF, rfl, ⟨aS, cS, rfl, _⟩, ⟨aC, cC, rfl, _⟩, ⟨aK, cK, rfl, hKc, hKm, _⟩, ⟨aF, cF, rfl, _⟩⟩ := hD
  generalize D.S.length = nS
  generalize D.C.length = nC
  generalize D.F.length = nF
  generalize D.n = n
  generalize D.K.length = nK at *
  unfold maxLen at hKm
  have hb := below_alloc w (.cells #[.slice aS nS cS, .slice aC nC cC, .slice aK nK cK, .int .i64 n, .slice aF nF cF] 29)
  by_cases hk : 16 ≤ key
  · obtain ⟨e1, e2⟩ := div16 hk
    by_cases h2 : key / 16 < n
    · by_cases h3 : key % 16 < (nK : Int)
      · have HO : Hid (decide (Given nK n key) = true) := decide_eq_true ⟨hk, h2, h3⟩
        go_enter Try.func27, Try.ntmps27
        go_wp2_with fail
        go_ret
        exact ⟨by rw [HO.out]; rfl, hb⟩
      · have HO : Hid (decide (Given nK n key) = false) := decide_eq_false fun h => h3 h.2.2
        go_enter Try.func27, Try.ntmps27
        go_wp2_with fail
        go_ret
        exact ⟨by rw [HO.out]; rfl, hb⟩
    · have HO : Hid (decide (Given nK n key) = false) := decide_eq_false fun h => h2 h.2.1
      have hd : decide (key / 16 < n) = false := decide_eq_false h2
      go_enter Try.func27, Try.ntmps27
      go_wp2_with fail
      go_ret
      exact ⟨by rw [HO.out]; rfl, hb⟩
  · have HO : Hid (decide (Given nK n key) = false) := decide_eq_false fun h => hk h.1
    go_enter Try.func27, Try.ntmps27
    go_wp2_with fail
    go_ret
    exact ⟨by rw [HO.out]; rfl, hb⟩

/-- A number of a slice. -/
theorem int_at {w : World} {B n : Nat} {A : Option Addr} {l : List Int} (h : Lies w B A n (l.map (Value.int .i64))) {k : Nat} (hk : k < n) (hl : k < l.length) :
    ∃ ad : Addr, A = some ad ∧ ad.block < B ∧ w.cell? (ad.add k) = some (.int .i64 (l[k])) := by
  obtain ⟨ad, e, hb, hc⟩ := h.2 (by omega)
  exact ⟨ad, e, hb, hc _ _ (by rw [List.getElem?_map, List.getElem?_eq_getElem hl]; rfl)⟩
def fencedAny (F keys : List Int) : Bool := keys.any fun x => decide (x < 1) || decide (x ∈ F)
theorem fencedAny_one (D : Dev) (x : Int) : fencedAny D.F [x] = fencedK D x := by simp [fencedAny, fencedK]
theorem fencedAny_yes {F keys : List Int} {x : Int} (h : x ∈ keys) (hx : x < 1 ∨ x ∈ F) : fencedAny F keys = true := by
  unfold fencedAny
  rw [List.any_eq_true]
  exact ⟨x, h, by rcases hx with h | h <;> simp [h]⟩
theorem fencedAny_no {F keys : List Int} (h : ∀ i : Nat, i < keys.length → ∀ hi : i < keys.length, 1 ≤ keys[i] ∧ keys[i] ∉ F) : fencedAny F keys = false := by
  unfold fencedAny
  rw [List.any_eq_false]
  intro x hx
  obtain ⟨i, hi, e⟩ := List.getElem_of_mem hx
  have := h i hi hi
  rw [e] at this
  simp [this.2]
  omega

set_option maxRecDepth 100000 in
set_option maxHeartbeats 1000000 in
theorem refFenced_any (v : Value) (D : Dev) (A : Option Addr) (n c : Nat) (keys : List Int) (w : World) (hD : DevAt w w.heap.size v D) (hA : Lies w w.heap.size A n (keys.map (Value.int .i64))) (hl : keys.length = n) (hn : n ≤ maxLen) :
    Calls Try.prog 28 #[v, .slice A n c] w fun e w' => e = .returned (.bool (fencedAny D.F keys)) ∧ Below w.heap.size w w' := by
  obtain ⟨vS, vC, vK, vF, rfl, ⟨aS, cS, rfl, _⟩, ⟨aC, cC, rfl, _⟩, ⟨aK, cK, rfl, _⟩, ⟨aF, cF, rfl, hFc, hFm, hF⟩⟩ := hD
  generalize D.S.length = nS
  generalize D.C.length = nC
  generalize D.n = dn
  generalize D.K.length = nK
  obtain ⟨nF, hFl⟩ : ∃ nF, D.F.length = nF := ⟨_, rfl⟩
  rw [hFl] at hFc hF ⊢
  generalize D.F = F at *
  unfold maxLen at hFm hn
  obtain ⟨W0, hW⟩ : ∃ W0, W0 = w.alloc (.cells #[.slice aS nS cS, .slice aC nC cC, .slice aK nK cK, .int .i64 dn, .slice aF nF cF] 29) := ⟨_, rfl⟩
  have hb : Below w.heap.size w W0 := hW ▸ below_alloc w _
  have p0 : Blk W0 w.heap.size #[.slice aS nS cS, .slice aC nC cC, .slice aK nK cK, .int .i64 dn, .slice aF nF cF] 29 := hW ▸ Blk.new w _ _
  have c4 : W0.cell? ⟨w.heap.size, 4, none⟩ = some (.slice aF nF cF) := p0.cell 4 _ rfl
  have HA := lies_up hA hb
  have HF := lies_up hF hb
  clear p0 hA hF
  go_enter Try.func28, Try.ntmps28
  go_wp2_with fail
  rw [← hW]
  clear hW
  go_loopw [5] (fun i wr => ∃ k q : Nat, k ≤ n ∧ i = .int .i64 (k : Int) ∧ wr = W0.drewN q ∧ Hid (∀ j : Nat, j < k → ∀ h : j < keys.length, 1 ≤ keys[j] ∧ keys[j] ∉ F)) (fun i _ => n - (intOf i).toNat)
  case atStart => exact ⟨0, 0, Nat.zero_le _, rfl, rfl, fun j hj => by omega⟩
  case round =>
    obtain ⟨k, q, hk, rfl, rfl, HP⟩ := hrel
    by_cases hlt : k < n
    · obtain ⟨ad, e1, _, hc⟩ := int_at HA hlt (by omega)
      subst e1
      have hmem : keys[k]'(by omega) ∈ keys := List.getElem_mem _
      obtain ⟨x, hx⟩ : ∃ x, keys[k]'(by omega) = x := ⟨_, rfl⟩
      rw [hx] at hc hmem
      by_cases h1 : x < 1
      · have HO := Lib.hid (fencedAny_yes (F := F) hmem (.inl h1))
        go_wp2_with fail
        go_ret
        exact ⟨by rw [HO.out]; rfl, hb.trans (drewN_below _ _ _)⟩
      · have hd : decide (x < 1) = false := decide_eq_false h1
        go_wp2_with fail
        go_loopw [6] (fun i wr => ∃ m r : Nat, m ≤ nF ∧ i = .int .i64 (m : Int) ∧ wr = W0.drewN r ∧ Hid (∀ j : Nat, j < m → ∀ h : j < F.length, F[j] ≠ x)) (fun i _ => nF - (intOf i).toNat)
        case atStart => exact ⟨0, q, Nat.zero_le _, rfl, rfl, fun j hj => by omega⟩
        case round =>
          obtain ⟨m, r, hm, rfl, rfl, HN⟩ := hrel
          by_cases hlm : m < nF
          · obtain ⟨fd, e2, _, hf⟩ := int_at HF hlm (by omega)
            subst e2
            have hfm : F[m]'(by omega) ∈ F := List.getElem_mem _
            obtain ⟨y, hy⟩ : ∃ y, F[m]'(by omega) = y := ⟨_, rfl⟩
            rw [hy] at hf hfm
            by_cases hxy : (y == x) = true
            · have hyx : y = x := by simpa using hxy
              have HO := Lib.hid (fencedAny_yes (F := F) hmem (.inr (hyx ▸ hfm)))
              clear hyx
              go_wp2_with fail
              go_quiet (fail)
              go_wp2_with fail
              go_ret
              exact ⟨by rw [HO.out]; rfl, hb.trans ((drewN_below _ _ _).trans (drewN_below _ _ _))⟩
            · have hxy' : (y == x) = false := by simpa using hxy
              have HN' : Hid (∀ j : Nat, j < m + 1 → ∀ h : j < F.length, F[j] ≠ x) := fun j hj h => by
                by_cases e : j = m
                · subst e; rw [hy]; simpa using hxy'
                · exact HN.out j (by omega) h
              clear HN hxy hx hy hmem hfm
              go_wp2_with fail
              go_quiet (fail)
              go_wp2_with fail
              go_roundw
              case rel => exact ⟨m + 1, _, by omega, by go_num, rfl, HN'⟩
              case measure => simp [intOf]; omega
          · have hmn : m = nF := by omega
            have HP' : Hid (∀ j : Nat, j < k + 1 → ∀ h : j < keys.length, 1 ≤ keys[j] ∧ keys[j] ∉ F) := fun j hj h => by
              by_cases e : j = k
              · subst e
                rw [hx]
                refine ⟨by omega, fun hin => ?_⟩
                obtain ⟨i, hi, e⟩ := List.getElem_of_mem hin
                exact HN.out i (by omega) hi e
              · exact HP.out j (by omega) h
            clear HP HN hx hmem
            go_wp2_with fail
            go_roundw
            case rel => exact ⟨k + 1, _, by omega, by go_num, rfl, HP'⟩
            case measure => simp [intOf]; omega
    · have hkn : k = n := by omega
      have HF' := Lib.hid (fencedAny_no (F := F) (keys := keys) (fun j hj h => HP.out j (by omega) h))
      go_wp2_with fail
      go_ret
      exact ⟨by rw [HF'.out]; rfl, hb.trans (drewN_below _ _ _)⟩

end Go.Proofs.Ytleemgjbihdbgaa
