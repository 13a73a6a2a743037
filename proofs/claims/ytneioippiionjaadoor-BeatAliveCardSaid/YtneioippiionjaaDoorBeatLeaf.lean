/-
  beat: times: by contract.
-/
import Derived.Test.YtneioippiionjaaDoorBeatMath
namespace Go.Proofs.YtneioippiionjaaDoor
open Go.RowKit
set_option linter.unusedVariables false
set_option linter.unusedSimpArgs false

set_option maxRecDepth 100000 in
theorem length_any (x : Int) (w : World) (h1 : -9223372036854775808 ≤ x) (h2 : x ≤ 9223372036854775807) :
    Calls Tryd.prog 22 #[.int .i64 x] w fun e w' => e = .returned (.int .u64 (max x 0)) ∧ w = w' := by
  go_enter Tryd.func22, Tryd.ntmps22
  go_wp2_with fail
  · go_ret
    exact ⟨by rw [Int.max_eq_right (by omega)]; rfl, rfl⟩
  · go_ret
    exact ⟨by rw [Int.max_eq_left (by omega)]; rfl, rfl⟩

/-- How far t is behind o. -/
def spanU (t o : Int) : Int := IntKind.u64.wrap (IntKind.u64.wrap t - IntKind.u64.wrap o)
theorem wrap_u64 (x : Int) : IntKind.u64.wrap x = x % 18446744073709551616 := rfl
theorem spanU_of {t o : Int} (h1 : -9223372036854775808 ≤ o) (h2 : t ≤ 9223372036854775807) (h : o ≤ t) : spanU t o = t - o := by
  unfold spanU
  rw [wrap_u64, wrap_u64, wrap_u64]
  omega

set_option maxRecDepth 100000 in
theorem span_any (t o : Int) (w : World) (h1 : -9223372036854775808 ≤ t) (h2 : t ≤ 9223372036854775807) (h3 : -9223372036854775808 ≤ o) (h4 : o ≤ 9223372036854775807) :
    Calls Tryd.prog 21 #[.int .i64 t, .int .i64 o] w fun e w' => e = .returned (.tuple #[.int .u64 (spanU t o), .bool (decide (o ≤ t))]) ∧ w = w' := by
  go_enter Tryd.func21, Tryd.ntmps21
  go_wp2_with fail
  go_ret2
  exact ⟨rfl, rfl⟩

set_option maxRecDepth 100000 in
theorem above_any (t o x : Int) (w : World) (h1 : -9223372036854775808 ≤ t) (h2 : t ≤ 9223372036854775807) (h3 : -9223372036854775808 ≤ o) (h4 : o ≤ 9223372036854775807) (h5 : -9223372036854775808 ≤ x) (h6 : x ≤ 9223372036854775807) :
    Calls Tryd.prog 14 #[.int .i64 t, .int .i64 o, .int .i64 x] w fun e w' => e = .returned (.bool (overB x o t)) ∧ w = w' := by
  go_enter Tryd.func14, Tryd.ntmps14
  go_wp2_with fail
  refine (span_any t o w h1 h2 h3 h4).mono ?_
  rintro e w1 ⟨rfl, rfl⟩
  by_cases h : o ≤ t
  · rw [spanU_of h3 h2 h, decide_eq_true h]
    have HO : Hid (overB x o t = decide (max x 0 < t - o)) := by show _ = _; unfold overB; rw [decide_eq_true h, Bool.true_and]
    clear h
    go_wp2_with fail
    refine (length_any x w h5 h6).mono ?_
    rintro e w1 ⟨rfl, rfl⟩
    go_wp2_with fail
    go_ret
    exact ⟨by rw [HO.out]; rfl, rfl⟩
  · have HO : Hid (overB x o t = false) := by show _ = _; unfold overB; rw [decide_eq_false h, Bool.false_and]
    rw [decide_eq_false h]
    clear h
    generalize spanU t o = u
    go_wp2_with fail
    go_ret
    exact ⟨by rw [HO.out]; rfl, rfl⟩

set_option maxRecDepth 100000 in
theorem reaches_any (t o x : Int) (w : World) (h1 : -9223372036854775808 ≤ t) (h2 : t ≤ 9223372036854775807) (h3 : -9223372036854775808 ≤ o) (h4 : o ≤ 9223372036854775807) (h5 : -9223372036854775808 ≤ x) (h6 : x ≤ 9223372036854775807) :
    Calls Tryd.prog 20 #[.int .i64 t, .int .i64 o, .int .i64 x] w fun e w' => e = .returned (.bool (reachB x o t)) ∧ w = w' := by
  go_enter Tryd.func20, Tryd.ntmps20
  go_wp2_with fail
  refine (span_any t o w h1 h2 h3 h4).mono ?_
  rintro e w1 ⟨rfl, rfl⟩
  by_cases h : o ≤ t
  · rw [spanU_of h3 h2 h, decide_eq_true h]
    have HO : Hid (reachB x o t = decide (max x 0 ≤ t - o)) := by show _ = _; unfold reachB; rw [decide_eq_true h, Bool.true_and]
    clear h
    go_wp2_with fail
    refine (length_any x w h5 h6).mono ?_
    rintro e w1 ⟨rfl, rfl⟩
    go_wp2_with fail
    go_ret
    exact ⟨by rw [HO.out]; rfl, rfl⟩
  · have HO : Hid (reachB x o t = false) := by show _ = _; unfold reachB; rw [decide_eq_false h, Bool.false_and]
    rw [decide_eq_false h]
    clear h
    generalize spanU t o = u
    go_wp2_with fail
    go_ret
    exact ⟨by rw [HO.out]; rfl, rfl⟩

set_option maxRecDepth 100000 in
theorem Over_any (a b c d e f l o : Int) (x n : Int) (w : World) (h1 : -9223372036854775808 ≤ n) (h2 : n ≤ 9223372036854775807) (h3 : -9223372036854775808 ≤ x) (h4 : x ≤ 9223372036854775807) (h5 : -9223372036854775808 ≤ l) (h6 : l ≤ 9223372036854775807) :
    Calls Tryd.prog 10 #[.agg #[.int .i64 a, .int .i64 b, .int .i64 c, .int .i64 d, .int .i64 e, .int .i64 f, .int .i64 l, .int .i64 o], .int .i64 x, .int .i64 n] w fun e w' => e = .returned (.bool (overB l x n)) ∧ Below w.heap.size w w' := by
  go_enter Tryd.func10, Tryd.ntmps10
  go_wp2_with fail
  refine (above_any n x l _ h1 h2 h3 h4 h5 h6).mono ?_
  rintro e w1 ⟨rfl, rfl⟩
  go_wp2_with fail
  go_ret
  exact ⟨rfl, (Below.refl _ _).alloc (Nat.le_refl _) _⟩

set_option maxRecDepth 100000 in
theorem saw_any (k c s : Int) (lk : Bool) (w : World) :
    Calls Tryd.prog 19 #[.agg #[.int .i64 k, .int .i64 c, .int .i64 s, .bool lk]] w fun e w' => e = .returned (.bool (lk && !(k == 0))) ∧ Below w.heap.size w w' := by
  go_enter Tryd.func19, Tryd.ntmps19
  rcases lk with _ | _
  · go_wp2_with fail
    go_ret
    exact ⟨rfl, (Below.refl _ _).alloc (Nat.le_refl _) _⟩
  · go_wp2_with fail
    go_ret
    exact ⟨rfl, (Below.refl _ _).alloc (Nat.le_refl _) _⟩

set_option maxRecDepth 100000 in
theorem dead_any (k c s wt n : Int) (lk : Bool) (w : World) (h1 : -9223372036854775808 ≤ n) (h2 : n ≤ 9223372036854775807) (h3 : -9223372036854775808 ≤ s) (h4 : s ≤ 9223372036854775807) (h5 : -9223372036854775808 ≤ wt) (h6 : wt ≤ 9223372036854775807) :
    Calls Tryd.prog 13 #[.agg #[.int .i64 k, .int .i64 c, .int .i64 s, .bool lk], .int .i64 wt, .int .i64 n] w fun e w' => e = .returned (.bool (deadB wt k s lk n)) ∧ Below w.heap.size w w' := by
  go_enter Tryd.func13, Tryd.ntmps13
  have p0 := Blk.new w #[.int .i64 k, .int .i64 c, .int .i64 s, .bool lk] 43
  go_wp2_with fail
  refine (saw_any k c s lk _).mono ?_
  rintro e w1 ⟨rfl, hb⟩
  have p1 := p0.below hb p0.lt
  have hb1 := boxed hb
  have c2 := p1.cell 2 _ rfl
  clear p0 hb
  rcases hk : (lk && !(k == 0)) with _ | _
  · have HO : Hid (deadB wt k s lk n = false) := by show _ = _; unfold deadB; rw [hk, Bool.false_and]
    clear hk
    go_wp2_with fail
    go_ret
    exact ⟨by rw [HO.out]; rfl, hb1⟩
  · have HO : Hid (deadB wt k s lk n = reachB wt s n) := by show _ = _; unfold deadB; rw [hk, Bool.true_and]
    clear hk
    go_wp2_with fail
    refine (reaches_any n s wt _ h1 h2 h3 h4 h5 h6).mono ?_
    rintro e w2 ⟨rfl, rfl⟩
    go_wp2_with fail
    go_ret
    exact ⟨by rw [HO.out]; rfl, hb1⟩

set_option maxRecDepth 100000 in
theorem Dead_any (a b c d e f l wt : Int) (k ct s n : Int) (lk : Bool) (w : World) (h1 : -9223372036854775808 ≤ n) (h2 : n ≤ 9223372036854775807) (h3 : -9223372036854775808 ≤ s) (h4 : s ≤ 9223372036854775807) (h5 : -9223372036854775808 ≤ wt) (h6 : wt ≤ 9223372036854775807) :
    Calls Tryd.prog 8 #[.agg #[.int .i64 a, .int .i64 b, .int .i64 c, .int .i64 d, .int .i64 e, .int .i64 f, .int .i64 l, .int .i64 wt], .agg #[.int .i64 k, .int .i64 ct, .int .i64 s, .bool lk], .int .i64 n] w fun e w' => e = .returned (.bool (deadB wt k s lk n)) ∧ Below w.heap.size w w' := by
  go_enter Tryd.func8, Tryd.ntmps8
  go_wp2_with fail
  refine (dead_any k ct s wt n lk _ h1 h2 h3 h4 h5 h6).mono ?_
  rintro e w1 ⟨rfl, hb⟩
  have hb1 := boxed (boxed hb)
  clear hb
  go_wp2_with fail
  go_ret
  exact ⟨rfl, hb1⟩

end Go.Proofs.YtneioippiionjaaDoor
