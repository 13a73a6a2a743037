/-
  The document's own device: where a sector stands in a cache; whether a key was given, is fenced; how many a cache has: by contract.
-/
import Derived.Test.YtjdacpnfgpdjhaaDoorJoinDevAt
import Derived.Test.YtjdacpnfgpdjhaaDoorAid
import Derived.RegionTactic
import Derived.BigQuiet
namespace Go.Proofs.YtjdacpnfgpdjhaaDoor
open Go.RowKit
set_option linter.unusedVariables false
set_option linter.unusedSimpArgs false

def placeI (l : List Cel) (s : Int) : Int := match placeO l s with | some k => (k : Int) | none => -1
theorem place_found {l : List Cel} {s : Int} {k : Nat} (hk : k < l.length) (h : ((l[k]).1 == s) = true) (hp : ∀ j : Nat, j < k → ∀ h : j < l.length, (l[j]).1 ≠ s) : placeI l s = (k : Int) := by
  have : placeO l s = some k := by
    unfold placeO
    rw [List.findIdx?_eq_some_iff_getElem]
    exact ⟨hk, h, fun j hj => by have := hp j hj (by omega); simpa using this⟩
  unfold placeI
  rw [this]
theorem place_missed {l : List Cel} {s : Int} (hp : ∀ j : Nat, j < l.length → ∀ h : j < l.length, (l[j]).1 ≠ s) : placeI l s = -1 := by
  have : placeO l s = none := by
    unfold placeO
    rw [List.findIdx?_eq_none_iff]
    intro c hc
    obtain ⟨j, hj, e⟩ := List.getElem_of_mem hc
    have := hp j hj hj
    rw [e] at this
    simpa using this
  unfold placeI
  rw [this]


theorem div16 {key : Int} (h : 16 ≤ key) : key.tdiv 16 = key / 16 ∧ key.tmod 16 = key % 16 := ⟨Int.tdiv_eq_ediv_of_nonneg (by omega), Int.tmod_eq_emod_of_nonneg (by omega)⟩

set_option maxRecDepth 100000 in
set_option maxHeartbeats 1000000 in
theorem refGiven_any (v : Value) (D : Dev) (key : Int) (B : Nat) (w : World) (hD : DevAt w B v D) (h0 : -9223372036854775808 ≤ key) (h1 : key ≤ 9223372036854775807) :
    Calls Tryd.prog 54 #[v, .int .i64 key] w fun e w' => e = .returned (.bool (decide (Given D.K.length D.n key))) ∧ Below w.heap.size w w' := by
  obtain ⟨vS, vC, vK, vF, rfl, ⟨aS, cS, rfl, _⟩, ⟨aC, cC, rfl, _⟩, ⟨aK, cK, rfl, hKc, hKm, _⟩, ⟨aF, cF, rfl, _⟩⟩ := hD
  generalize D.S.length = nS
  generalize D.C.length = nC
  generalize D.F.length = nF
  generalize D.n = n
  generalize D.K.length = nK at *
  unfold maxLen at hKm
  have hb := below_alloc w (.cells #[.slice aS nS cS, .slice aC nC cC, .slice aK nK cK, .int .i64 n, .slice aF nF cF] 46)
  by_cases hk : 16 ≤ key
  · obtain ⟨e1, e2⟩ := div16 hk
    by_cases h2 : key / 16 < n
    · by_cases h3 : key % 16 < (nK : Int)
      · have HO : Hid (decide (Given nK n key) = true) := decide_eq_true ⟨hk, h2, h3⟩
        go_enter Tryd.func54, Tryd.ntmps54
        go_wp2_with fail
        go_ret
        exact ⟨by rw [HO.out]; rfl, hb⟩
      · have HO : Hid (decide (Given nK n key) = false) := decide_eq_false fun h => h3 h.2.2
        go_enter Tryd.func54, Tryd.ntmps54
        go_wp2_with fail
        go_ret
        exact ⟨by rw [HO.out]; rfl, hb⟩
    · have HO : Hid (decide (Given nK n key) = false) := decide_eq_false fun h => h2 h.2.1
      have hd : decide (key / 16 < n) = false := decide_eq_false h2
      go_enter Tryd.func54, Tryd.ntmps54
      go_wp2_with fail
      go_ret
      exact ⟨by rw [HO.out]; rfl, hb⟩
  · have HO : Hid (decide (Given nK n key) = false) := decide_eq_false fun h => hk h.1
    go_enter Tryd.func54, Tryd.ntmps54
    go_wp2_with fail
    go_ret
    exact ⟨by rw [HO.out]; rfl, hb⟩

/-- A number of a slice. -/
theorem int_at {w : World} {B n : Nat} {A : Option Addr} {l : List Int} (h : Lies w B A n (l.map (Value.int .i64))) {k : Nat} (hk : k < n) (hl : k < l.length) :
    ∃ ad : Addr, A = some ad ∧ ad.block < B ∧ w.cell? (ad.add k) = some (.int .i64 (l[k])) := by
  obtain ⟨ad, e, hb, hc⟩ := h.2 (by omega)
  exact ⟨ad, e, hb, hc _ _ (by rw [List.getElem?_map, List.getElem?_eq_getElem hl]; rfl)⟩
def fencedAny (F keys : List Int) : Bool := keys.any fun x => decide (x < 1) || decide (x ∈ F)
theorem fencedAny_one (D : Dev) (x : Int) : fencedAny D.F [x] = fencedK D x := by simp [fencedAny, fencedK]
theorem fencedAny_yes {F keys : List Int} {x : Int} (h : x ∈ keys) (hx : x < 1 ∨ x ∈ F) : fencedAny F keys = true := by
  unfold fencedAny
  rw [List.any_eq_true]
  exact ⟨x, h, by rcases hx with h | h <;> simp [h]⟩
theorem fencedAny_no {F keys : List Int} (h : ∀ i : Nat, i < keys.length → ∀ hi : i < keys.length, 1 ≤ keys[i] ∧ keys[i] ∉ F) : fencedAny F keys = false := by
  unfold fencedAny
  rw [List.any_eq_false]
  intro x hx
  obtain ⟨i, hi, e⟩ := List.getElem_of_mem hx
  have := h i hi hi
  rw [e] at this
  simp [this.2]
  omega


end Go.Proofs.YtjdacpnfgpdjhaaDoor
