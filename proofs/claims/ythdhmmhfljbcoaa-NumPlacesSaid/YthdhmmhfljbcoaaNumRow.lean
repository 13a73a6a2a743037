/-
  num and its reference: rows of numbers, by contract.
-/
import Derived.Test.YthdhmmhfljbcoaaNumGet
import Derived.Test.YthdhmmhfljbcoaaNumPut
namespace Go.Proofs.Ythdhmmhfljbcoaa
open Go.RowKit
set_option linter.unusedVariables false
set_option linter.unusedSimpArgs false

/-- The first k numbers of width X of some bytes. -/
def numK (s : List Int) (X k : Nat) : List Int := (List.range k).map fun i => dec ((s.drop (i * X)).take X)
theorem numK_length (s : List Int) (X k : Nat) : (numK s X k).length = k := by simp [numK]
theorem numK_zero (s : List Int) (X : Nat) : numK s X 0 = [] := rfl
theorem numK_succ (s : List Int) (X k : Nat) : numK s X (k + 1) = numK s X k ++ [dec ((s.drop (k * X)).take X)] := by simp [numK, List.range_succ]
/-- Are the bytes just numbers of that width? -/
def rowB (s : List Int) (x : Int) : Bool := decide (s.length % x.toNat = 0) && (numK s x.toNat (s.length / x.toNat)).all (fitsB x)

/-- What Row comes to. -/
def RowPost (s : List Int) (x : Int) (w : World) (e : Ending) (w' : World) : Prop :=
  Below w.heap.size w w' ∧ ((mayB x = false ∧ e = .returned (.tuple #[.slice none 0 0, .int .i64 2])) ∨
    (mayB x = true ∧ rowB s x = false ∧ e = .returned (.tuple #[.slice none 0 0, .int .i64 10])) ∨
    (mayB x = true ∧ rowB s x = true ∧ ∃ v, e = .returned (.tuple #[v, .int .i64 0]) ∧
      w'.ownsRow w.heap.size 3 1 v (s.length / x.toNat) ((numK s x.toNat (s.length / x.toNat)).map (Value.int .i64))))

theorem rowPost_width {s : List Int} {x : Int} {w w' : World} (h : mayB x = false) (hb : Below w.heap.size w w') : RowPost s x w (.returned (.tuple #[.slice none 0 0, .int .i64 2])) w' :=
  ⟨hb, .inl ⟨h, rfl⟩⟩
theorem rowPost_rest {s : List Int} {x : Int} {w w' : World} (hx : mayB x = true) (h : ¬ s.length % x.toNat = 0) (hb : Below w.heap.size w w') : RowPost s x w (.returned (.tuple #[.slice none 0 0, .int .i64 10])) w' :=
  ⟨hb, .inr (.inl ⟨hx, by simp [rowB, h], rfl⟩)⟩
theorem rowPost_great {s : List Int} {x : Int} {w w' : World} {k : Nat} (hx : mayB x = true) (hk : k < s.length / x.toNat) (h : fitsB x (dec ((s.drop (k * x.toNat)).take x.toNat)) = false) (hb : Below w.heap.size w w') :
    RowPost s x w (.returned (.tuple #[.slice none 0 0, .int .i64 10])) w' := by
  refine ⟨hb, .inr (.inl ⟨hx, ?_, rfl⟩)⟩
  rw [rowB, Bool.and_eq_false_iff]
  right
  rw [List.all_eq_false]
  refine ⟨dec ((s.drop (k * x.toNat)).take x.toNat), ?_, by simp [h]⟩
  simp only [numK, List.mem_map, List.mem_range]
  exact ⟨k, hk, rfl⟩
theorem rowPost_good {s : List Int} {x : Int} {w w' : World} {v : Value} {k : Nat} (hx : mayB x = true) (hk : s.length = k * x.toNat) (h : (numK s x.toNat k).all (fitsB x) = true) (hb : Below w.heap.size w w')
    (hown : w'.ownsRow w.heap.size 3 1 v k ((numK s x.toNat k).map (Value.int .i64))) : RowPost s x w (.returned (.tuple #[v, .int .i64 0])) w' := by
  obtain ⟨h1, h2⟩ := of_mayB hx
  have e1 : s.length % x.toNat = 0 := by rw [hk]; exact Nat.mul_mod_left _ _
  have e2 : s.length / x.toNat = k := by rw [hk]; exact Nat.mul_div_cancel _ (by omega)
  refine ⟨hb, .inr (.inr ⟨hx, ?_, v, rfl, ?_⟩)⟩
  · rw [rowB, e2, h, e1]; rfl
  · rw [e2]; exact hown

theorem numK_all_succ {s : List Int} {X k : Nat} {p : Int → Bool} (h : (numK s X k).all p = true) (hp : p (dec ((s.drop (k * X)).take X)) = true) : (numK s X (k + 1)).all p = true := by
  rw [numK_succ, List.all_append, h]
  simp [hp]

set_option maxRecDepth 100000 in
set_option maxHeartbeats 1000000 in
theorem numRow_any (s : ByteArray) (x : Int) (w : World) (hs : s.size ≤ 17592186044416) :
    Calls Try.prog 13 #[.string s, .int .i64 x] w (RowPost (bytesI s) x w) := by
  have hM : s.size ≤ maxLen := by unfold maxLen; omega
  by_cases hx : mayB x = true
  · obtain ⟨h1, h2⟩ := of_mayB hx
    obtain ⟨X, rfl⟩ := Int.eq_ofNat_of_zero_le (show 0 ≤ x by omega)
    have HX := Lib.hid hx
    have hX1 : 1 ≤ X := by omega
    have hX2 : X ≤ 6 := by omega
    obtain ⟨i0, hi, hz0, hz1, hz2⟩ := info_parts infoInt
    clear hx
    by_cases hr : s.size % X = 0
    · have hq : s.size = s.size / X * X := by
        have := Nat.div_add_mod s.size X
        rw [hr, Nat.mul_comm] at this
        omega
      generalize hQ : s.size / X = Q at *
      have hQ2 : Q ≤ 17592186044416 := by
        have := Nat.div_le_self s.size X
        omega
      have HQ := Lib.hid hQ
      have HS := Lib.hid hq
      have hrB : ((s.size : Int) % (X : Int) != 0) = false := by
        rw [← Int.natCast_emod, hr]; rfl
      have hC : Hid ((s.size : Int) / (X : Int) = (Q : Int)) := by
        show _ = _
        rw [← Int.natCast_ediv, HQ.out]
      have hq0 : (0 : Int) ≤ (s.size : Int) / (X : Int) := by have := hC.out; omega
      have hq1 : (s.size : Int) / (X : Int) ≤ 17592186044416 := by have := hC.out; omega
      clear hQ hq hr
      go_enter Try.func13, Try.ntmps13
      go_wp2_with fail
      refine (may_any _ _).mono ?_
      rintro e w1 ⟨rfl, rfl⟩
      rw [HX.out]
      go_wp2_with (at_make; refine wpList_make_own _ rfl _ _ 23 rfl w.heap.size 3 i0 (.int .i64 0) 1 Try.underlying23 hi hz0 hz1 _ _ _ Q rfl rfl hC.out ?c1 ?c2 (Nat.le_refl _) ?_)
      case c1 => rw [hz2]; omega
      case c2 => unfold maxLen; omega
      intro w1 hown1 hg1
      have hb1 : Below w.heap.size w w1 := (Below.refl _ _).grown hg1 (Nat.le_refl _) (by intro j hj; cases hj)
      clear hg1 hq0 hq1 hrB
      go_wp2_with fail
      go_loopw [7, 8] (fun v i wr => ∃ k a : Nat, k ≤ Q ∧ Hid (a = k * X) ∧ i = .int .i64 a ∧ wr.ownsRow w.heap.size 3 1 v k ((numK (bytesI s) X k).map (Value.int .i64)) ∧ Hid ((numK (bytesI s) X k).all (fitsB X) = true) ∧ Below w.heap.size w wr) (fun _ i _ => s.size - (intOf i).toNat)
      case atStart => exact ⟨0, 0, Nat.zero_le _, (by rw [Nat.zero_mul] : (0 : Nat) = 0 * X), rfl, hown1, (by rfl : (numK (bytesI s) X 0).all (fitsB X) = true), hb1⟩
      case round =>
        clear hown1 hb1
        obtain ⟨k, a, hk, ha, rfl, hownr, hall, hbr⟩ := hrel
        by_cases hlt : k < Q
        · have ha1 : a + X ≤ s.size := by
            rw [HS.out, ha.out, ← Nat.succ_mul]
            exact Nat.mul_le_mul_right _ hlt
          go_wp2_with fail
          refine (get_any X (s.extract a s.size) _ hX2 (by rw [ByteArray.size_extract]; omega) (by rw [ByteArray.size_extract]; omega)).mono ?_
          rintro e w2 ⟨rfl, rfl⟩
          rw [bytesI_extract]
          by_cases hf : fitsB X (dec (((bytesI s).drop a).take X)) = true
          · have HALL : Hid ((numK (bytesI s) X (k + 1)).all (fitsB X) = true) := numK_all_succ hall.out (by rw [← ha.out]; exact hf)
            have HE : Hid (numK (bytesI s) X (k + 1) = numK (bytesI s) X k ++ [dec (((bytesI s).drop a).take X)]) := by
              show _ = _
              rw [numK_succ, ← ha.out]
            rw [hf]
            generalize dec (((bytesI s).drop a).take X) = N at *
            clear hf hall
            have hsz := hbr.size
            go_wp2_with (at_builtin; refine wpList_append_own _ rfl _ _ 23 rfl w.heap.size 3 i0 (.int .i64 0) 1 8 Try.underlying23 hi hz0 hz1 hz2 rfl (by decide) _ _ _ rfl (hownr.alloc _) ⟨wr.heap.size, 0, none⟩ 1 1 [_] rfl rfl (cell_new _ _ _) (one_int _ _) ?d1 ?d2 ?d3 ?_)
            case d1 => unfold maxLen; omega
            case d2 => omega
            case d3 => simp; omega
            intro v' w2 hown' hgrow _
            have hown2 : w2.ownsRow w.heap.size 3 1 v' (k + 1) ((numK (bytesI s) X (k + 1)).map (Value.int .i64)) := by
              rw [HE.out, List.map_append]
              exact hown'
            have hb2 : Below w.heap.size w w2 := (hbr.alloc (by omega) _).grown hgrow (by simp; omega) (fun j hj => (hownr.lt j hj).1)
            clear hown' hgrow hownr hbr
            go_wp2
            go_roundw
            case rel => exact ⟨k + 1, a + X, by omega, (by rw [ha.out, ← Nat.succ_mul] : a + X = (k + 1) * X), by go_num, hown2, HALL, hb2⟩
            case measure => simp [intOf]; omega
          · have hf' : fitsB X (dec (((bytesI s).drop a).take X)) = false := by simpa using hf
            have HF : Hid (fitsB X (dec (((bytesI s).drop (k * X)).take X)) = false) := by
              show _ = _
              rw [← ha.out]; exact hf'
            rw [hf']
            generalize dec (((bytesI s).drop a).take X) = N at *
            clear hf hf'
            go_wp2_with fail
            go_ret2
            exact rowPost_great HX.out (by rw [bytesI_length]; show k < s.size / X; rw [HQ.out]; exact hlt) HF.out hbr
        · have hkQ : k = Q := by omega
          have ha1 : a = s.size := by rw [HS.out, ha.out, hkQ]
          subst ha1
          have HK : Hid (s.size = k * X) := ha
          clear hkQ
          go_wp2_with fail
          go_ret2
          exact rowPost_good HX.out (by rw [bytesI_length]; exact HK.out) hall.out hbr hownr
    · have hrB : ((s.size : Int) % (X : Int) != 0) = true := by
        rw [← Int.natCast_emod]
        simp
        omega
      have HR := Lib.hid hr
      clear hr
      go_enter Try.func13, Try.ntmps13
      go_wp2_with fail
      refine (may_any _ _).mono ?_
      rintro e w1 ⟨rfl, rfl⟩
      rw [HX.out]
      go_wp2_with fail
      go_ret2
      exact rowPost_rest HX.out (by rw [bytesI_length]; exact HR.out) (Below.refl _ _)
  · have hx' : mayB x = false := by simpa using hx
    have HX := Lib.hid hx'
    clear hx hx'
    go_enter Try.func13, Try.ntmps13
    go_wp2_with fail
    refine (may_any _ _).mono ?_
    rintro e w1 ⟨rfl, rfl⟩
    rw [HX.out]
    go_wp2_with fail
    go_ret2
    exact rowPost_width HX.out (Below.refl _ _)

end Go.Proofs.Ythdhmmhfljbcoaa
