/- Joined: TabOwn, TabClo, TabRow, TabGrant, TabNew, TabMay. -/
import Derived.Test.YtjknloaolennoaaTabCopy
import Derived.Maps.AppendAt
import Derived.BigQuiet
import Derived.Test.YtjknloaolennoaaTabVar
import Derived.Test.YtjknloaolennoaaTabMayB
import Derived.Test.YtjknloaolennoaaTabAll
/-
  A table of a call's own in a variable: what stays where a row grows, or a cell of the variable is written.
-/
namespace Go.Proofs.Ytjknloaolennoaa
open Go.RowKit
set_option linter.unusedVariables false
set_option linter.unusedSimpArgs false

section
variable {w w' : World} {B n size : Nat} {e : TypeId} {v : Value} {xs : List Value}
theorem ow_kind (h : w.ownsRow B e size v n xs) {g : Nat} (hg : v.ownBlock = some g) : ∃ c, w.heap[g]? = some (.cells c e (0, 0)) := by
  rcases h.2 with ⟨rfl, _⟩ | ⟨g', cap, cur, rfl, _, h3, _⟩
  · cases hg
  · simp [Value.ownBlock] at hg
    subst hg
    exact ⟨_, h3⟩
/-- Two rows of unlike types lie in unlike blocks. -/
theorem ow_types {e' : TypeId} {v' : Value} {n' size' : Nat} {ys : List Value} {B' : Nat} (h : w.ownsRow B e size v n xs) (k : w.ownsRow B' e' size' v' n' ys) (hne : e ≠ e') : v.ownBlock = none ∨ v.ownBlock ≠ v'.ownBlock := by
  cases hv : v'.ownBlock with
  | none => cases h2 : v.ownBlock with
    | none => exact .inl rfl
    | some g => exact .inr (by simp)
  | some g =>
    right
    intro hg
    obtain ⟨c, h1⟩ := ow_kind h hg
    obtain ⟨c', h2⟩ := ow_kind k hv
    rw [h1] at h2
    simp only [Option.some.injEq, Obj.cells.injEq] at h2
    exact hne h2.2.1
theorem ow_blk {cs : Array Value} {T : TypeId} {b : Nat} (h : w.ownsRow B e size v n xs) (k : Blk w b cs T) (hne : e ≠ T) : v.ownBlock ≠ some b := by
  intro hg
  obtain ⟨c, h1⟩ := ow_kind h hg
  have k' : w.heap[b]? = some (.cells cs T (0, 0)) := k
  rw [h1] at k'
  simp only [Option.some.injEq, Obj.cells.injEq] at k'
  exact hne k'.2.1
theorem blk_grown {cs : Array Value} {T : TypeId} {b : Nat} (k : Blk w b cs T) (hg : w.grownBy w' v.ownBlock) (hne : v.ownBlock ≠ some b) : Blk w' b cs T :=
  (hg.block b k.lt (fun h => hne h.symm)).trans k
end

section
variable {w w1 : World} {B : Nat} {vS vH vQ v' : Value} {t : TabM} {x : HoldM}
theorem OwnT.pushH (h : OwnT w B vS vH vQ t) (hown : w1.ownsRow B 43 4 v' (t.ho.length + 1) (holV t.ho ++ holV [x])) (hg : w.grownBy w1 vH.ownBlock) (hat : v'.ownBlock = vH.ownBlock ∨ v'.ownBlock = some w.heap.size) :
    OwnT w1 B vS v' vQ { t with ho := t.ho ++ [x] } := by
  refine ⟨h.s.kept hg (ow_types h.s h.h (by decide)), ?_, h.q.kept hg ?_, fun b hb hq => ?_⟩
  · show w1.ownsRow B _ 4 v' (t.ho ++ [x]).length (holV (t.ho ++ [x]))
    rw [holV_append, List.length_append]
    exact hown
  · cases e1 : vQ.ownBlock with
    | none => exact .inl rfl
    | some g => exact .inr fun e2 => h.ap g e2.symm e1
  · rcases hat with e1 | e1
    · exact h.ap b (e1 ▸ hb) hq
    · have : b = w.heap.size := by rw [e1] at hb; injection hb with hb; exact hb.symm
      have h2 := (h.q.lt b hq).2
      omega
theorem OwnT.pushQ (h : OwnT w B vS vH vQ t) (hown : w1.ownsRow B 43 4 v' (t.qu.length + 1) (holV t.qu ++ holV [x])) (hg : w.grownBy w1 vQ.ownBlock) (hat : v'.ownBlock = vQ.ownBlock ∨ v'.ownBlock = some w.heap.size) :
    OwnT w1 B vS vH v' { t with qu := t.qu ++ [x] } := by
  refine ⟨h.s.kept hg (ow_types h.s h.q (by decide)), h.h.kept hg ?_, ?_, fun b hb hq => ?_⟩
  · cases e1 : vH.ownBlock with
    | none => exact .inl rfl
    | some g => exact .inr fun e2 => h.ap g e1 e2.symm
  · show w1.ownsRow B _ 4 v' (t.qu ++ [x]).length (holV (t.qu ++ [x]))
    rw [holV_append, List.length_append]
    exact hown
  · rcases hat with e1 | e1
    · exact h.ap b hb (e1 ▸ hq)
    · have : b = w.heap.size := by rw [e1] at hq; injection hq with hq; exact hq.symm
      have h2 := (h.h.lt b hb).2
      omega
/-- A cell of a variable that holds a table is written. -/
theorem OwnT.set {cs : Array Value} {o : Nat} (h : OwnT w B vS vH vQ t) (k : Blk w o cs 29) (i : Nat) (u : Value) : OwnT (w.setCell ⟨o, i, none⟩ u) B vS vH vQ t :=
  ⟨ownsRow_setCell_other h.s (ow_blk h.s k (by decide)) u, ownsRow_setCell_other h.h (ow_blk h.h k (by decide)) u, ownsRow_setCell_other h.q (ow_blk h.q k (by decide)) u, h.ap⟩
theorem OwnT.rowH {sl : List SlotM} {hs qs : List HoldM} {n : Nat} (h : OwnT w B vS vH vQ ⟨sl, hs, qs⟩) (e : hs.length = n) : w.ownsRow B 43 4 vH n (holV hs) := e ▸ h.h
theorem OwnT.rowQ {sl : List SlotM} {hs qs : List HoldM} {n : Nat} (h : OwnT w B vS vH vQ ⟨sl, hs, qs⟩) (e : qs.length = n) : w.ownsRow B 43 4 vQ n (holV qs) := e ▸ h.q
/-- The queue is forgotten. -/
theorem OwnT.noQ (h : OwnT w B vS vH vQ t) : OwnT w B vS vH (.slice none 0 0) { t with qu := [] } := ⟨h.s, h.h, World.ownsRow_nil _ _ _ _, fun b _ hq => by cases hq⟩
end

/-! ### Granting, one more -/
theorem grantGo_snoc : ∀ (r ho q : List HoldM) (x : HoldM), grantGo (r ++ [x]) ho q = (if sFits x (grantGo r ho q).1 = true ∧ sFits x (grantGo r ho q).2 = true then ((grantGo r ho q).1 ++ [x], (grantGo r ho q).2) else ((grantGo r ho q).1, (grantGo r ho q).2 ++ [x]))
  | [], ho, q, x => by
    show grantGo [x] ho q = _
    unfold grantGo
    split <;> rfl
  | h :: r, ho, q, x => by
    rw [List.cons_append]
    unfold grantGo
    split
    · exact grantGo_snoc r (ho ++ [h]) q x
    · exact grantGo_snoc r ho (q ++ [h]) x
theorem grant_yes {l ho hs qs : List HoldM} {k : Nat} (hk : k < l.length) {x : HoldM} (e : l[k] = x) (hg : grantGo (l.take k) ho [] = (hs, qs)) (h1 : sFits x hs = true) (h2 : sFits x qs = true) : grantGo (l.take (k + 1)) ho [] = (hs ++ [x], qs) := by
  rw [List.take_succ_eq_append_getElem hk, grantGo_snoc, hg, e, if_pos ⟨h1, h2⟩]
theorem grant_no {l ho hs qs : List HoldM} {k : Nat} (hk : k < l.length) {x : HoldM} (e : l[k] = x) (hg : grantGo (l.take k) ho [] = (hs, qs)) (h : sFits x hs = false ∨ sFits x qs = false) : grantGo (l.take (k + 1)) ho [] = (hs, qs ++ [x]) := by
  rw [List.take_succ_eq_append_getElem hk, grantGo_snoc, hg, e, if_neg]
  rintro ⟨h1, h2⟩
  rcases h with h | h
  · rw [h] at h1; cases h1
  · rw [h] at h2; cases h2

end Go.Proofs.Ytjknloaolennoaa

/-
  table: conditions on holds (of, just), what meets some of them; is a slot free: by contract.
-/
namespace Go.Proofs.Ytjknloaolennoaa
open Go.RowKit
set_option linter.unusedVariables false
set_option linter.unusedSimpArgs false

theorem tof_any (key : Int) (w : World) : Calls Try.prog 50 #[.int .i64 key] w fun e w' => e = .returned (.func (.func 63) #[] #[.pointer (some ⟨w.heap.size, 0, none⟩)]) ∧ w' = w.alloc (.cells #[.int .i64 key] 3) := by
  go_enter Try.func50, Try.ntmps50
  go_wp2_with fail
  go_ret
  exact ⟨rfl, rfl⟩
theorem tjust_any (lo hi : Int) (w : World) : Calls Try.prog 51 #[.agg #[.int .i64 lo, .int .i64 hi]] w fun e w' => e = .returned (.func (.func 64) #[] #[.pointer (some ⟨w.heap.size, 0, none⟩)]) ∧ w' = w.alloc (.cells #[.int .i64 lo, .int .i64 hi] 34) := by
  go_enter Try.func51, Try.ntmps51
  go_wp2_with fail
  go_ret
  exact ⟨rfl, rfl⟩

set_option maxRecDepth 100000 in
theorem cloOf_any (k lo hi m key : Int) (b : Nat) (w : World) (h1 : w.cell? ⟨b, 0, none⟩ = some (.int .i64 key)) (l1 : b < w.heap.size) :
    Calls Try.prog 63 #[.agg #[.int .i64 k, .int .i64 lo, .int .i64 hi, .int .i8 m], .pointer (some ⟨b, 0, none⟩)] w fun e w' => e = .returned (.bool (k == key)) ∧ Below w.heap.size w w' := by
  have b0 := one_new w (.cells #[.int .i64 k, .int .i64 lo, .int .i64 hi, .int .i8 m] 43)
  go_enter Try.func63, Try.ntmps63
  go_wp2_with fail
  go_ret
  exact ⟨rfl, b0⟩
set_option maxRecDepth 100000 in
theorem cloJust_any (k lo hi m sl sh : Int) (b : Nat) (w : World) (h1 : w.cell? ⟨b, 0, none⟩ = some (.int .i64 sl)) (h2 : w.cell? ⟨b, 1, none⟩ = some (.int .i64 sh)) (l1 : b < w.heap.size) :
    Calls Try.prog 64 #[.agg #[.int .i64 k, .int .i64 lo, .int .i64 hi, .int .i8 m], .pointer (some ⟨b, 0, none⟩)] w fun e w' => e = .returned (.bool (decide ((⟨lo, hi⟩ : SpanM) = ⟨sl, sh⟩))) ∧ Below w.heap.size w w' := by
  have b0 := one_new w (.cells #[.int .i64 k, .int .i64 lo, .int .i64 hi, .int .i8 m] 43)
  by_cases e1 : lo = sl
  · subst e1
    by_cases e2 : hi = sh
    · subst e2
      go_enter Try.func64, Try.ntmps64
      go_wp2_with fail
      go_ret
      exact ⟨by simp, b0⟩
    · have HV : Hid (decide ((⟨lo, hi⟩ : SpanM) = ⟨lo, sh⟩) = false) := by show _ = _; simp [e2]
      go_enter Try.func64, Try.ntmps64
      go_wp2_with fail
      go_ret
      exact ⟨by rw [HV.out] <;> rfl, b0⟩
  · have HV : Hid (decide ((⟨lo, hi⟩ : SpanM) = ⟨sl, sh⟩) = false) := by show _ = _; simp [e1]
    go_enter Try.func64, Try.ntmps64
    go_wp2_with fail
    go_ret
    exact ⟨by rw [HV.out] <;> rfl, b0⟩

/-- A row of conditions tells which holds meet them. -/
def MeetsC (w : World) (v : Value) (p : HoldM → Bool) : Prop := ∀ W k lo hi m, Below w.heap.size w W → Calls Try.prog 62 #[.agg #[.int .i64 k, .int .i64 lo, .int .i64 hi, .int .i8 m], v] W fun e w' => e = .returned (.bool (p ⟨k, ⟨lo, hi⟩, m⟩)) ∧ Below W.heap.size W w'
theorem MeetsC.below {w w' : World} {v : Value} {p : HoldM → Bool} (h : MeetsC w v p) (hb : Below w.heap.size w w') : MeetsC w' v p := fun W k lo hi m hW => h W k lo hi m (below_then hb hW)

set_option maxRecDepth 100000 in
set_option maxHeartbeats 1000000 in
theorem meets1_any (q b : Nat) (key : Int) (w : World) (hq : Blk w q #[.func (.func 63) #[] #[.pointer (some ⟨b, 0, none⟩)]] 78) (hk : Blk w b #[.int .i64 key] 3) : MeetsC w (.slice (some ⟨q, 0, none⟩) 1 1) fun h => h.key == key := by
  intro W k lo hi m hW
  have hq0 := hq.below hW hq.lt
  have hk0 := hk.below hW hk.lt
  have HC : Hid (∀ X, Below W.heap.size W X → Calls Try.prog 63 #[.agg #[.int .i64 k, .int .i64 lo, .int .i64 hi, .int .i8 m], .pointer (some ⟨b, 0, none⟩)] X fun e w' => e = .returned (.bool (k == key)) ∧ Below X.heap.size X w') :=
    fun X h => cloOf_any k lo hi m key b X ((hk0.below h hk0.lt).cell 0 _ rfl) (hk0.below h hk0.lt).lt
  clear hq hk hW hk0
  have p0 := Blk.new W #[.int .i64 k, .int .i64 lo, .int .i64 hi, .int .i8 m] 43
  have b0 := one_new W (.cells #[.int .i64 k, .int .i64 lo, .int .i64 hi, .int .i8 m] 43)
  obtain ⟨W0, hW0⟩ : ∃ X, X = W.alloc (.cells #[.int .i64 k, .int .i64 lo, .int .i64 hi, .int .i8 m] 43) := ⟨_, rfl⟩
  have hqa := hq0.below b0 hq0.lt
  rw [← hW0] at p0 b0 hqa
  clear hq0
  go_enter Try.func62, Try.ntmps62
  go_wp2_with fail
  rw [← hW0]
  clear hW0
  go_loopw [9] (fun i wr => ∃ j : Nat, j ≤ 1 ∧ i = .int .i64 j ∧ Below W0.heap.size W0 wr ∧ Hid (0 < j → (k == key) = true)) (fun i _ => 1 - (intOf i).toNat)
  case atStart => exact ⟨0, by omega, rfl, Below.refl _ _, fun h => by omega⟩
  case round =>
    obtain ⟨j, hj, rfl, hb, HF⟩ := hrel
    have hb1 := below_then b0 hb
    rcases Nat.lt_or_ge j 1 with hj1 | hj1
    · obtain rfl : j = 0 := by omega
      have hqr := hqa.below hb hqa.lt
      have pr := p0.below hb p0.lt
      have q0 := hqr.cell 0 _ rfl
      have lq := hqr.lt
      obtain ⟨c0, c1, c2, c3⟩ := hold_cells pr
      have lp := pr.lt
      clear hqr pr
      go_wp2_with fail
      refine (HC.out _ hb1).mono ?_
      rintro e w2 ⟨rfl, hb2⟩
      have hb3 := below_then hb hb2
      cases he : k == key with
      | true =>
        go_wp2_with fail
        go_roundw
        case rel => exact ⟨1, by omega, by go_num, hb3, fun _ => he⟩
        case measure => simp [intOf]
      | false =>
        have HV := Lib.hid he
        clear c0 c1 c2 c3 q0 HF
        go_wp2_with fail
        go_ret
        exact ⟨by rw [HV.out] <;> rfl, below_then b0 hb3⟩
    · obtain rfl : j = 1 := by omega
      have he := Lib.hid (HF.out (by omega))
      clear HF hj1
      go_wp2_with fail
      go_ret
      exact ⟨by rw [he.out] <;> rfl, hb1⟩

set_option maxRecDepth 100000 in
set_option maxHeartbeats 1000000 in
theorem meets2_any (q b d : Nat) (key sl sh : Int) (w : World) (hq : Blk w q #[.func (.func 63) #[] #[.pointer (some ⟨b, 0, none⟩)], .func (.func 64) #[] #[.pointer (some ⟨d, 0, none⟩)]] 78) (hk : Blk w b #[.int .i64 key] 3) (hd : Blk w d #[.int .i64 sl, .int .i64 sh] 34) : MeetsC w (.slice (some ⟨q, 0, none⟩) 2 2) fun h => h.key == key && decide (h.s = ⟨sl, sh⟩) := by
  intro W k lo hi m hW
  have hq0 := hq.below hW hq.lt
  have hk0 := hk.below hW hk.lt
  have hd0 := hd.below hW hd.lt
  have HC : Hid (∀ X, Below W.heap.size W X → Calls Try.prog 63 #[.agg #[.int .i64 k, .int .i64 lo, .int .i64 hi, .int .i8 m], .pointer (some ⟨b, 0, none⟩)] X fun e w' => e = .returned (.bool (k == key)) ∧ Below X.heap.size X w') :=
    fun X h => cloOf_any k lo hi m key b X ((hk0.below h hk0.lt).cell 0 _ rfl) (hk0.below h hk0.lt).lt
  have HD : Hid (∀ X, Below W.heap.size W X → Calls Try.prog 64 #[.agg #[.int .i64 k, .int .i64 lo, .int .i64 hi, .int .i8 m], .pointer (some ⟨d, 0, none⟩)] X fun e w' => e = .returned (.bool (decide ((⟨lo, hi⟩ : SpanM) = ⟨sl, sh⟩))) ∧ Below X.heap.size X w') :=
    fun X h => cloJust_any k lo hi m sl sh d X ((hd0.below h hd0.lt).cell 0 _ rfl) ((hd0.below h hd0.lt).cell 1 _ rfl) (hd0.below h hd0.lt).lt
  obtain ⟨r2, hr2⟩ : ∃ r, decide ((⟨lo, hi⟩ : SpanM) = ⟨sl, sh⟩) = r := ⟨_, rfl⟩
  rw [hr2] at HD
  have HR : Hid (∀ r, (k == key) = r → (((⟨k, ⟨lo, hi⟩, m⟩ : HoldM).key == key && decide ((⟨k, ⟨lo, hi⟩, m⟩ : HoldM).s = ⟨sl, sh⟩)) = (r && r2))) := fun r h => by
    show ((k == key) && decide ((⟨lo, hi⟩ : SpanM) = ⟨sl, sh⟩)) = _
    rw [h, hr2]
  clear hq hk hd hW hk0 hd0 hr2
  have p0 := Blk.new W #[.int .i64 k, .int .i64 lo, .int .i64 hi, .int .i8 m] 43
  have b0 := one_new W (.cells #[.int .i64 k, .int .i64 lo, .int .i64 hi, .int .i8 m] 43)
  obtain ⟨W0, hW0⟩ : ∃ X, X = W.alloc (.cells #[.int .i64 k, .int .i64 lo, .int .i64 hi, .int .i8 m] 43) := ⟨_, rfl⟩
  have hqa := hq0.below b0 hq0.lt
  rw [← hW0] at p0 b0 hqa
  clear hq0
  go_enter Try.func62, Try.ntmps62
  go_wp2_with fail
  rw [← hW0]
  clear hW0
  go_loopw [9] (fun i wr => ∃ j : Nat, j ≤ 2 ∧ i = .int .i64 j ∧ Below W0.heap.size W0 wr ∧ Hid (0 < j → (k == key) = true) ∧ Hid (1 < j → r2 = true)) (fun i _ => 2 - (intOf i).toNat)
  case atStart => exact ⟨0, by omega, rfl, Below.refl _ _, fun h => by omega, fun h => by omega⟩
  case round =>
    obtain ⟨j, hj, rfl, hb, HF, HG⟩ := hrel
    have hb1 := below_then b0 hb
    have hqr := hqa.below hb hqa.lt
    have pr := p0.below hb p0.lt
    have q0 := hqr.cell 0 _ rfl
    have q1 := hqr.cell 1 _ rfl
    have lq := hqr.lt
    obtain ⟨c0, c1, c2, c3⟩ := hold_cells pr
    have lp := pr.lt
    clear hqr pr
    rcases Nat.lt_or_ge j 1 with hj1 | hj1
    · obtain rfl : j = 0 := by omega
      go_wp2_with fail
      refine (HC.out _ hb1).mono ?_
      rintro e w2 ⟨rfl, hb2⟩
      have hb3 := below_then hb hb2
      cases he : k == key with
      | true =>
        go_wp2_with fail
        go_roundw
        case rel => exact ⟨1, by omega, by go_num, hb3, fun _ => he, fun h => by omega⟩
        case measure => simp [intOf]
      | false =>
        have HV := Lib.hid (HR.out false he)
        clear c0 c1 c2 c3 q0 q1 HF HG
        go_wp2_with fail
        go_ret
        exact ⟨by rw [HV.out] <;> rfl, below_then b0 hb3⟩
    · rcases Nat.lt_or_ge j 2 with hj2 | hj2
      · obtain rfl : j = 1 := by omega
        have he := Lib.hid (HF.out (by omega))
        clear HG hj1 hj2 HF
        go_wp2_with fail
        refine (HD.out _ hb1).mono ?_
        rintro e w2 ⟨rfl, hb2⟩
        have hb3 := below_then hb hb2
        have HV := Lib.hid (HR.out true he.out)
        cases r2 with
        | true =>
          go_wp2_with fail
          go_roundw
          case rel => exact ⟨2, by omega, by go_num, hb3, fun _ => he.out, fun _ => by first | rfl | trivial⟩
          case measure => simp [intOf]
        | false =>
          clear c0 c1 c2 c3 q0 q1
          go_wp2_with fail
          go_ret
          exact ⟨by rw [HV.out] <;> rfl, below_then b0 hb3⟩
      · obtain rfl : j = 2 := by omega
        have HV := Lib.hid (HR.out true (HF.out (by omega)))
        obtain rfl : r2 = true := HG.out (by omega)
        clear HF HG hj1 hj2 c0 c1 c2 c3 q0 q1
        go_wp2_with fail
        go_ret
        exact ⟨by rw [HV.out] <;> rfl, hb1⟩

set_option maxRecDepth 100000 in
theorem cloFree_any (k c : Int) (w : World) : Calls Try.prog 56 #[.agg #[.int .i64 k, .int .i64 c]] w fun e w' => e = .returned (.bool (k == 0)) ∧ Below w.heap.size w w' := by
  have b0 := one_new w (.cells #[.int .i64 k, .int .i64 c] 48)
  go_enter Try.func56, Try.ntmps56
  go_wp2_with fail
  go_ret
  exact ⟨rfl, b0⟩

end Go.Proofs.Ytjknloaolennoaa

/-
  Rows of a call's own of holds: an element is written, the tail is cleared, the row is cut; what clear and clone run to. It speaks of no program's function.
-/
namespace Go.Proofs.Ytjknloaolennoaa
open Go.RowKit
set_option linter.unusedVariables false
set_option linter.unusedSimpArgs false

/-- An append whose run is known, as a step of a walk. -/
theorem wpl_append {P : Program} {ops : Array Oper} {rest : List Oper} {o : Oper} {a : Act} {Q : Exit → Act → World → Prop} {w : World} (hgd : o.guard = none) (s x : Operand) (t : TypeId)
    (ho : o.op = .call { callee := .builtin .append, args := #[s, x], argTypes := #[t, t] }) {v1 v2 : Value} (hs : a.eval s = v1) (hx : a.eval x = v2) {v' : Value} {w' : World}
    (hr : (Builtin.append_ #[t, t] o.type #[v1, v2]).run P w = .ok v' w') (h : wpList P ops Q rest (a.put o.dst v') w') : wpList P ops Q (o :: rest) a w :=
  wpList_plain hgd fun K hK => by
    unfold Oper.wp execOp
    simp only [ho, resolve, invoke, builtin, Sem.run_bind, Sem.run_pure, Result.andThen_ok, List.map_toArray, List.map_cons, List.map_nil, hs, hx, hr]
    exact hK _ _ h

section
variable {w w' : World} {B n size g c : Nat} {e : TypeId} {v : Value} {xs : List Value}
/-- Cells of a row of the call's own are written: the row holds others from there on. -/
theorem ow_sets : ∀ (vs : List Value) (o : Nat) {w : World} {xs : List Value}, w.ownsRow B e size (.slice (some ⟨g, 0, none⟩) n c) n xs → ∃ ys, (w.setCells g o vs).ownsRow B e size (.slice (some ⟨g, 0, none⟩) n c) n ys ∧ ys.take o = xs.take o
  | [], o, w, xs, h => ⟨xs, h, rfl⟩
  | u :: vs, o, w, xs, h => by
    obtain ⟨ys, h1, h2⟩ := ow_sets vs (o + 1) (h.stored o u).1
    refine ⟨ys, h1, ?_⟩
    have h3 : (ys.take (o + 1)).take o = ((xs.set o u).take (o + 1)).take o := by rw [h2]
    rw [List.take_take, List.take_take, Nat.min_eq_left (by omega)] at h3
    rw [h3, List.take_set_of_le (Nat.le_refl _)]
/-- A row of the call's own is cut. -/
theorem ow_cut (h : w.ownsRow B e size (.slice (some ⟨g, 0, none⟩) n c) n xs) {m : Nat} (hm : m ≤ n) : w.ownsRow B e size (.slice (some ⟨g, 0, none⟩) m c) m (xs.take (m * size)) := by
  have hle : m * size ≤ n * size := Nat.mul_le_mul_right _ hm
  refine ⟨by rw [List.length_take, h.1]; omega, ?_⟩
  rcases h.2 with ⟨h', _⟩ | ⟨g', cap, cur, h', hb, hg, hnc, hcm, hcs, htake⟩
  · simp at h'
  · simp only [Value.slice.injEq, Option.some.injEq, Addr.mk.injEq, and_true, true_and] at h'
    obtain ⟨rfl, rfl⟩ := h'
    refine .inr ⟨g, c, cur, rfl, hb, hg, by omega, hcm, hcs, ?_⟩
    rw [← htake, List.take_take, Nat.min_eq_left hle]
theorem ow_there (h : w.ownsRow B e size (.slice (some ⟨g, 0, none⟩) n c) n xs) {o k : Nat} (hk : o + k ≤ n * size) : w.there g o k := fun j hj => by
  refine ⟨?_, h.frozenAt _⟩
  rw [h.cellAt _ (by omega), List.getElem?_eq_getElem (by rw [h.1]; omega)]
  rfl
end
/-- A hold's cells. -/
def hol4 (x : HoldM) : List Value := [.int .i64 x.key, .int .i64 x.s.lo, .int .i64 x.s.hi, .int .i8 x.m]
theorem holV_set : ∀ (l : List HoldM) (i : Nat) (x : HoldM), i < l.length → ((((holV l).set (i * 4) (.int .i64 x.key)).set (i * 4 + 1) (.int .i64 x.s.lo)).set (i * 4 + 2) (.int .i64 x.s.hi)).set (i * 4 + 3) (.int .i8 x.m) = holV (l.set i x)
  | [], i, x, h => by simp at h
  | y :: r, 0, x, _ => rfl
  | y :: r, i + 1, x, h => by
    have ih := holV_set r i x (by simpa using h)
    have e : ∀ (z : HoldM) (q : List HoldM), holV (z :: q) = .int .i64 z.key :: .int .i64 z.s.lo :: .int .i64 z.s.hi :: .int .i8 z.m :: holV q := fun _ _ => rfl
    rw [List.set_cons_succ, e, e, ← ih, show (i + 1) * 4 = i * 4 + 1 + 1 + 1 + 1 by omega]
    rfl
/-- A hold is written into a row of the call's own. -/
theorem ow_hold {w : World} {B n g c i : Nat} {l : List HoldM} {x : HoldM} (h : w.ownsRow B 43 4 (.slice (some ⟨g, 0, none⟩) n c) n (holV l)) (hl : l.length = n) (hi : i < n) :
    (w.setCells g (i * 4) (hol4 x)).ownsRow B 43 4 (.slice (some ⟨g, 0, none⟩) n c) n (holV (l.set i x)) := by
  rw [← holV_set l i x (by omega)]
  exact ((((h.stored (i * 4) _).1.stored (i * 4 + 1) _).1.stored (i * 4 + 2) _).1.stored (i * 4 + 3) _).1

theorem ow_cells4 {w : World} {B n g c j : Nat} {l : List HoldM} {x : HoldM} (h : w.ownsRow B 43 4 (.slice (some ⟨g, 0, none⟩) n c) n (holV l)) (hj : j < n) (hl : j < l.length) (e : l[j] = x) :
    w.cell? ⟨g, j * 4, none⟩ = some (.int .i64 x.key) ∧ w.cell? ⟨g, j * 4 + 1, none⟩ = some (.int .i64 x.s.lo) ∧ w.cell? ⟨g, j * 4 + 2, none⟩ = some (.int .i64 x.s.hi) ∧ w.cell? ⟨g, j * 4 + 3, none⟩ = some (.int .i8 x.m) := by
  subst e
  obtain ⟨h0, h1, h2, h3⟩ := holV_at l hl
  exact ⟨(h.cellAt _ (by omega)).trans h0, (h.cellAt _ (by omega)).trans h1, (h.cellAt _ (by omega)).trans h2, (h.cellAt _ (by omega)).trans h3⟩
theorem ow_free4 {w : World} {B n g c : Nat} {xs : List Value} (h : w.ownsRow B 43 4 (.slice (some ⟨g, 0, none⟩) n c) n xs) (i : Nat) :
    w.frozen? ⟨g, i * 4, none⟩ = false ∧ w.frozen? ⟨g, i * 4 + 1, none⟩ = false ∧ w.frozen? ⟨g, i * 4 + 2, none⟩ = false ∧ w.frozen? ⟨g, i * 4 + 3, none⟩ = false := ⟨h.frozenAt _, h.frozenAt _, h.frozenAt _, h.frozenAt _⟩

theorem tzeroH (w : World) : (zeroValue 43).run Try.prog w = .ok (.agg #[.int .i64 0, .int .i64 0, .int .i64 0, .int .i8 0]) w := by kernel_rfl
/-- 'clear(s)' of some holds: the cells hold something else. -/
theorem run_clear_holds (w : World) (ty : TypeId) (g o m c : Nat) (hm : 0 < m) (ht : w.there g o (m * 4)) :
    ∃ vs, (Builtin.clear_ #[27] ty #[.slice (some ⟨g, o, none⟩) m c]).run Try.prog w = .ok (.tuple #[]) (w.setCells g o vs) ∧ vs.length = m * 4 := by
  refine ⟨(Builtin.zeroCells #[.int .i64 0, .int .i64 0, .int .i64 0, .int .i8 0] m).toList, ?_, by simp [Builtin.zeroCells]⟩
  have hlen : (Builtin.zeroCells #[.int .i64 0, .int .i64 0, .int .i64 0, .int .i8 0] m).toList.length = m * 4 := by simp [Builtin.zeroCells]
  have h1 : ∀ v ∈ (Builtin.zeroCells #[.int .i64 0, .int .i64 0, .int .i64 0, .int .i8 0] m).toList, v.oneCell' = true := by
    intro v hv
    unfold Builtin.zeroCells at hv
    rw [Array.toList_map, List.mem_map] at hv
    obtain ⟨i, _, rfl⟩ := hv
    have hi : i % 4 < 4 := Nat.mod_lt _ (by decide)
    show (#[Value.int .i64 0, .int .i64 0, .int .i64 0, .int .i8 0][i % 4]!).oneCell' = true
    rcases (by omega : i % 4 = 0 ∨ i % 4 = 1 ∨ i % 4 = 2 ∨ i % 4 = 3) with h | h | h | h <;> rw [h] <;> rfl
  have hst := run_storeCells_cells (P := Try.prog) g o (Builtin.zeroCells #[.int .i64 0, .int .i64 0, .int .i64 0, .int .i8 0] m).toList 0 w (by rw [hlen]; exact fun j hj => (ht j (by omega)).1) (by rw [hlen]; exact fun j hj => (ht j (by omega)).2) h1
  simp only [Nat.add_zero] at hst
  obtain ⟨m, rfl⟩ : ∃ k, m = k + 1 := ⟨m - 1, by omega⟩
  simp [Builtin.clear_, run_underlying Try.underlying27, tzeroH, Value.cells, hst]

end Go.Proofs.Ytjknloaolennoaa

/-
  The document's Grant of a table: by contract.
-/
namespace Go.Proofs.Ytjknloaolennoaa
open Go.RowKit
set_option linter.unusedVariables false
set_option linter.unusedSimpArgs false

set_option maxRecDepth 100000 in
set_option maxHeartbeats 4000000 in
theorem refGrant_any (vS vH vQ : Value) (t : TabM) (w : World) (hS : SloAt w vS t.sl) (hH : HolAt w vH t.ho) (hQ : HolAt w vQ t.qu) (hSm : TabSm t) :
    Calls Try.prog 25 #[.agg #[vS, vH, vQ]] w fun e w' => ∃ uS uH uQ, e = .returned (.agg #[uS, uH, uQ]) ∧ OwnT w' w.heap.size uS uH uQ (grantT t) ∧ Below w.heap.size w w' := by
  have hCopy := fun W (h : Below w.heap.size w W) => refCopy_any vS vH vQ t W (hS.below h) (hH.below h) (hQ.below h) hSm
  obtain ⟨aH, cH, rfl, lH, _⟩ := hH
  obtain ⟨aQ, cQ, rfl, lQ, _⟩ := hQ
  obtain ⟨hnS, hnH, hnQ⟩ := hSm
  obtain ⟨nH, enH⟩ : ∃ n, t.ho.length = n := ⟨_, rfl⟩
  obtain ⟨nQ, enQ⟩ : ∃ n, t.qu.length = n := ⟨_, rfl⟩
  rw [enH] at lH hnH hCopy ⊢
  rw [enQ] at lQ hnQ hCopy ⊢
  have HLQ := Lib.hid enQ
  have HLH := Lib.hid enH
  clear enH enQ hS
  obtain ⟨W0, hW0⟩ : ∃ W0, W0 = (w.alloc (.cells #[vS, .slice aH nH cH, .slice aQ nQ cQ] 29)).alloc (.cells #[.slice none 0 0, .slice none 0 0, .slice none 0 0] 29) := ⟨_, rfl⟩
  have hb0 : Below w.heap.size w W0 := by rw [hW0]; exact two_new _ _ _
  obtain ⟨p0, r0⟩ : Blk W0 w.heap.size #[vS, .slice aH nH cH, .slice aQ nQ cQ] 29 ∧ Blk W0 (w.heap.size + 1) #[.slice none 0 0, .slice none 0 0, .slice none 0 0] 29 := hW0 ▸ blk2 w _ _ _ _
  obtain ⟨B0, hB0⟩ : ∃ b, b = W0.heap.size := ⟨_, rfl⟩
  have hBw : w.heap.size + 2 ≤ B0 := by rw [hB0]; have := r0.lt; omega
  have HQ : Hid (∀ W, Below w.heap.size w W → LiesH W W.heap.size aQ nQ t.qu) := fun W h => lQ.below h
  obtain ⟨i0, hi0, hz0, hz1, hz2⟩ := info_parts tinfoHold
  obtain ⟨q0, q1, q2⟩ := tab_cells p0
  have hlp := p0.lt
  clear lH lQ
  have hC := Lib.hid (hCopy W0 hb0)
  rw [← hB0] at hC
  clear hCopy
  go_enter Try.func25, Try.ntmps25
  go_wp2_with fail
  rw [← hW0]
  clear hW0
  refine hC.out.mono ?_
  rintro e w1 ⟨uS, uH, uQ, rfl, O1, hb1⟩
  clear hC
  rw [hB0] at hb1
  have p1 := p0.below hb1 p0.lt
  have r1 := r0.below hb1 r0.lt
  have hw1 : Below w.heap.size w w1 := below_then hb0 hb1
  have hs1 : B0 ≤ w1.heap.size := by rw [hB0]; exact hb1.size
  clear hb1 p0 r0 hb0 q0 q1 q2 hlp hB0
  obtain ⟨AS, cS0, eS, _, _⟩ := ow_shape O1.s
  obtain ⟨AH0, cH0, eH, _, _⟩ := ow_shape O1.h
  obtain ⟨AQ0, cQ0, eQ, _, _⟩ := ow_shape O1.q
  subst eS eH eQ
  obtain ⟨nS, enS⟩ : ∃ n, t.sl.length = n := ⟨_, rfl⟩
  rw [enS, HLH.out, HLQ.out] at O1 ⊢
  clear enS hnS
  have bo := new_alloc w1 (.cells #[.slice AS nS cS0, .slice AH0 nH cH0, .slice none 0 0] 29)
  have po := Blk.new w1 #[.slice AS nS cS0, .slice AH0 nH cH0, .slice none 0 0] 29
  have O2 := (O1.below bo).noQ
  have p2 := p1.below bo p1.lt
  have r2 := r1.below bo r1.lt
  have hw2 := below_then hw1 bo
  have hs2 := Nat.le_trans hs1 bo.size
  have hlw := p1.lt
  go_upto_region 3 with fail
  obtain ⟨W3, hW3⟩ : ∃ W, W = w1.alloc (.cells #[.slice AS nS cS0, .slice AH0 nH cH0, .slice none 0 0] 29) := ⟨_, rfl⟩
  rw [← hW3] at bo po O2 p2 r2 hw2 hs2 ⊢
  clear hW3
  obtain ⟨o, ho⟩ : ∃ o, w1.heap.size = o := ⟨_, rfl⟩
  rw [ho] at po hs1 hlw ⊢
  have hoB : B0 ≤ o := hs1
  clear bo p1 r1 hw1 hs1 O1 ho hlw
  obtain ⟨s0, s1, s2⟩ := tab_cells p2
  have hb2 := hw2.size
  go_wp2_with fail
  go_loopw [4] (fun i wr => ∃ (k : Nat) (vH vQ : Value) (hs qs : List HoldM), k ≤ nQ ∧ i = .int .i64 k ∧ Hid (grantGo (t.qu.take k) t.ho [] = (hs, qs)) ∧ OwnT wr B0 (.slice AS nS cS0) vH vQ ⟨t.sl, hs, qs⟩ ∧ Blk wr o #[.slice AS nS cS0, vH, vQ] 29 ∧ Blk wr w.heap.size #[vS, .slice aH nH cH, .slice aQ nQ cQ] 29 ∧ Blk wr (w.heap.size + 1) #[.slice none 0 0, .slice none 0 0, .slice none 0 0] 29 ∧ Below w.heap.size w wr ∧ B0 ≤ wr.heap.size ∧ hs.length + qs.length = nH + k) (fun i _ => nQ - (intOf i).toNat)
  case atStart => exact ⟨0, _, _, _, _, Nat.zero_le _, rfl, rfl, O2, po, p2, r2, hw2, hs2, by rw [HLH.out]; rfl⟩
  case round =>
    clear O2 po p2 r2 hw2 hs2 s0 s1 s2 hb2
    obtain ⟨k, vH, vQ, hs, qs, hk, rfl, HG, O, bo, bt, br, hb, hB, hlen⟩ := hrel
    obtain ⟨AH, cH', eH, _, _⟩ := ow_shape O.h
    obtain ⟨AQ, cQ', eQ, _, _⟩ := ow_shape O.q
    subst eH eQ
    obtain ⟨mh, HNh⟩ : ∃ n, hs.length = n := ⟨_, rfl⟩
    obtain ⟨mq, HNq⟩ : ∃ n, qs.length = n := ⟨_, rfl⟩
    rw [show (⟨t.sl, hs, qs⟩ : TabM).ho.length = mh from HNh, show (⟨t.sl, hs, qs⟩ : TabM).qu.length = mq from HNq] at O bo
    rw [HNh, HNq] at hlen
    have HNs : Hid (True ∧ hs.length = mh ∧ qs.length = mq) := ⟨trivial, HNh, HNq⟩
    obtain ⟨s0, s1, s2⟩ := tab_cells bt
    obtain ⟨o0, o1, o2⟩ := tab_cells bo
    have hlt0 := bt.lt
    have hlo := bo.lt
    clear HNh HNq
    by_cases hlt : k < nQ
    · have hkl : k < t.qu.length := by rw [HLQ.out]; exact hlt
      obtain ⟨ad, e1, had, c0, c1, c2, c3⟩ := hol_cells (HQ.out _ hb) hlt hkl
      subst e1
      obtain ⟨kx, lx, hx, mx, hxx⟩ : ∃ kx lx hx' mx, t.qu[k] = (⟨kx, ⟨lx, hx'⟩, mx⟩ : HoldM) := ⟨_, _, _, _, rfl⟩
      have HX : Hid (∃ h : k < t.qu.length, t.qu[k] = (⟨kx, ⟨lx, hx⟩, mx⟩ : HoldM)) := ⟨hkl, hxx⟩
      rw [hxx] at c0 c1 c2 c3
      clear hxx hkl
      have bx := new_alloc wr (.cells #[.int .i64 kx, .int .i64 lx, .int .i64 hx, .int .i8 mx] 43)
      have px := Blk.new wr #[.int .i64 kx, .int .i64 lx, .int .i64 hx, .int .i8 mx] 43
      have O4 := O.below bx
      have bo4 := bo.below bx hlo
      have bt4 := bt.below bx hlt0
      have br4 := br.below bx br.lt
      have hb4 := below_then hb bx
      have hB4 := Nat.le_trans hB bx.size
      have lh := ow_lies (O4.rowH HNs.out.2.1)
      clear O bo bt br hb hB bx
      go_wp2_with fail
      obtain ⟨W4, hW4⟩ : ∃ W, W = wr.alloc (.cells #[.int .i64 kx, .int .i64 lx, .int .i64 hx, .int .i8 mx] 43) := ⟨_, rfl⟩
      rw [← hW4] at px O4 bo4 bt4 br4 hb4 hB4 lh ⊢
      clear hW4
      refine (refFits_any kx lx hx mx AH mh cH' hs _ ⟨HNs.out.2.1, lh⟩ (by unfold maxLen; omega)).mono ?_
      rintro e w5 ⟨rfl, hb5⟩
      have px5 := px.below hb5 px.lt
      have O5 := O4.below hb5
      have bo5 := bo4.below hb5 bo4.lt
      have bt5 := bt4.below hb5 bt4.lt
      have br5 := br4.below hb5 br4.lt
      have hbb5 := below_then hb4 hb5
      have hB5 := Nat.le_trans hB4 hb5.size
      clear px O4 bo4 bt4 br4 hb4 hB4 lh hb5 s0 s1 s2 o0 o1 o2 c0 c1 c2 c3 hlt0 hlo
      obtain ⟨o0, o1, o2⟩ := tab_cells bo5
      obtain ⟨x0, x1, x2, x3⟩ := hold_cells px5
      have hlo := bo5.lt
      have hlx := px5.lt
      have hlt0 := bt5.lt
      cases hf1 : sFits ⟨kx, ⟨lx, hx⟩, mx⟩ hs with
      | false =>
        have HF := Lib.hid (grant_no HX.out.1 HX.out.2 HG.out (.inl hf1))
        clear hf1 HG
        have px6 := px5
        have O6 := O5
        have bo6 := bo5
        have bt6 := bt5
        have br6 := br5
        have hb6 := hbb5
        have hB6 := hB5
        have s60 := o0
        have s61 := o1
        have s62 := o2
        clear px5 O5 bo5 bt5 br5 hbb5 hB5 o0 o1 o2
        have bone := new_alloc w5 (.cells #[.int .i64 kx, .int .i64 lx, .int .i64 hx, .int .i8 mx] 43)
        have lone := LiesH.just (Blk.new w5 #[.int .i64 kx, .int .i64 lx, .int .i64 hx, .int .i8 mx] 43)
        obtain ⟨pz, ez, _, hcz⟩ := lone.2.2 (by omega)
        injection ez with ez
        subst ez
        have HOwn := Lib.hid (ow_up (O6.rowQ HNs.out.2.2) bone)
        clear lone
        go_wp2_with (at_builtin; refine wpList_append_own_at _ rfl _ _ 27 rfl B0 43 i0 _ 4 32 Try.underlying27 hi0 hz0 hz1 hz2 rfl (by omega) _ _ _ rfl (HOwn.out) ⟨w5.heap.size, 0, none⟩ 1 1 (holV [⟨kx, ⟨lx, hx⟩, mx⟩]) rfl rfl hcz (holV_one _) ?d1 ?d2 ?d3 ?_)
        case d1 => unfold maxLen; omega
        case d2 => omega
        case d3 => first | omega | (simp; omega)
        intro v5 w7 hown5 hg5 _ hat
        have O7 := OwnT.pushQ (x := ⟨kx, ⟨lx, hx⟩, mx⟩) (O6.below bone) (by rw [HNs.out.2.2]; exact hown5) hg5 (hat.imp id fun h => h.trans (by simp))
        obtain ⟨A5, c5, e5, _, _⟩ := ow_shape hown5
        subst e5
        have bo7 := blk_grown (bo6.alloc (.cells #[.int .i64 kx, .int .i64 lx, .int .i64 hx, .int .i8 mx] 43)) hg5 (ow_blk HOwn.out (bo6.alloc _) (by decide))
        have bt7 := blk_grown (bt6.alloc (.cells #[.int .i64 kx, .int .i64 lx, .int .i64 hx, .int .i8 mx] 43)) hg5 (ow_blk HOwn.out (bt6.alloc _) (by decide))
        have br7 := blk_grown (br6.alloc (.cells #[.int .i64 kx, .int .i64 lx, .int .i64 hx, .int .i8 mx] 43)) hg5 (ow_blk HOwn.out (br6.alloc _) (by decide))
        have hb7 : Below w.heap.size w w7 := (below_then hb6 bone).grown hg5 (by have := (below_then hb6 bone).size; omega) (fun j hj => by have := (HOwn.out.lt j hj).1; omega)
        have hs7 : B0 ≤ w7.heap.size := Nat.le_trans hB6 (Nat.le_trans bone.size hg5.size)
        have O8 := O7.set bo7 2 (.slice A5 (mq + 1) c5)
        have bo8 := bo7.set 2 (.slice A5 (mq + 1) c5)
        have bt8 := bt7.other (c := o) (by omega) 2 (.slice A5 (mq + 1) c5)
        have br8 := br7.other (c := o) (by omega) 2 (.slice A5 (mq + 1) c5)
        have hb8 : Below w.heap.size w (w7.setCell ⟨o, 2, none⟩ (.slice A5 (mq + 1) c5)) := hb7.setCell (by show w.heap.size ≤ o; omega) _
        have hs8 : B0 ≤ (w7.setCell ⟨o, 2, none⟩ (.slice A5 (mq + 1) c5)).heap.size := by simpa [World.setCell] using hs7
        have HRel : Hid (OwnT (w7.setCell ⟨o, 2, none⟩ (.slice A5 (mq + 1) c5)) B0 (.slice AS nS cS0) (.slice AH mh cH') (.slice A5 (mq + 1) c5) ⟨t.sl, hs, qs ++ [⟨kx, ⟨lx, hx⟩, mx⟩]⟩ ∧ Blk (w7.setCell ⟨o, 2, none⟩ (.slice A5 (mq + 1) c5)) o #[.slice AS nS cS0, .slice AH mh cH', .slice A5 (mq + 1) c5] 29 ∧ Blk (w7.setCell ⟨o, 2, none⟩ (.slice A5 (mq + 1) c5)) w.heap.size #[vS, .slice aH nH cH, .slice (some ad) nQ cQ] 29 ∧ Blk (w7.setCell ⟨o, 2, none⟩ (.slice A5 (mq + 1) c5)) (w.heap.size + 1) #[.slice none 0 0, .slice none 0 0, .slice none 0 0] 29 ∧ Below w.heap.size w (w7.setCell ⟨o, 2, none⟩ (.slice A5 (mq + 1) c5)) ∧ B0 ≤ (w7.setCell ⟨o, 2, none⟩ (.slice A5 (mq + 1) c5)).heap.size) := ⟨O8, bo8, bt8, br8, hb8, hs8⟩
        have f7 := bo7.free 2
        have lo7 := bo7.lt
        obtain ⟨s70, s71, s72⟩ := tab_cells bo7
        have HLen' : Hid ((qs ++ [(⟨kx, ⟨lx, hx⟩, mx⟩ : HoldM)]).length = mq + 1) := by show _ = _; rw [List.length_append, HNs.out.2.2]; rfl
        clear O6 bo6 bt6 br6 hb6 O7 bo7 bt7 br7 hb7 hs7 O8 bo8 bt8 br8 hb8 hs8 hown5 hg5 hat bone hcz HOwn hB6 s60 s61 s62
        go_wp2_with fail
        go_roundw
        case rel => exact ⟨k + 1, _, _, _, _, by omega, by go_num, HF, HRel.out.1, HRel.out.2.1, HRel.out.2.2.1, HRel.out.2.2.2.1, HRel.out.2.2.2.2.1, HRel.out.2.2.2.2.2, by have h1 := HNs.out.2.1; have h2 := HNs.out.2.2; simp; omega⟩
        case measure => simp [intOf]; omega
      | true =>
        have HF1 := Lib.hid hf1
        clear hf1
        have lq := ow_lies (O5.rowQ HNs.out.2.2)
        go_wp2_with fail
        refine (refFits_any kx lx hx mx AQ mq cQ' qs _ ⟨HNs.out.2.2, lq⟩ (by unfold maxLen; omega)).mono ?_
        rintro e w6 ⟨rfl, hb6'⟩
        have px6 := px5.below hb6' px5.lt
        have O6 := O5.below hb6'
        have bo6 := bo5.below hb6' bo5.lt
        have bt6 := bt5.below hb6' bt5.lt
        have br6 := br5.below hb6' br5.lt
        have hb6 := below_then hbb5 hb6'
        have hB6 := Nat.le_trans hB5 hb6'.size
        clear px5 O5 bo5 bt5 br5 hbb5 hB5 lq hb6' o0 o1 o2 x0 x1 x2 x3 hlo hlx hlt0
        obtain ⟨s60, s61, s62⟩ := tab_cells bo6
        obtain ⟨x0, x1, x2, x3⟩ := hold_cells px6
        have hlo := bo6.lt
        have hlx := px6.lt
        have hlt0 := bt6.lt
        cases hf2 : sFits ⟨kx, ⟨lx, hx⟩, mx⟩ qs with
        | false =>
          have HF := Lib.hid (grant_no HX.out.1 HX.out.2 HG.out (.inr hf2))
          clear hf2 HG
          have bone := new_alloc w6 (.cells #[.int .i64 kx, .int .i64 lx, .int .i64 hx, .int .i8 mx] 43)
          have lone := LiesH.just (Blk.new w6 #[.int .i64 kx, .int .i64 lx, .int .i64 hx, .int .i8 mx] 43)
          obtain ⟨pz, ez, _, hcz⟩ := lone.2.2 (by omega)
          injection ez with ez
          subst ez
          have HOwn := Lib.hid (ow_up (O6.rowQ HNs.out.2.2) bone)
          clear lone
          go_wp2_with (at_builtin; refine wpList_append_own_at _ rfl _ _ 27 rfl B0 43 i0 _ 4 32 Try.underlying27 hi0 hz0 hz1 hz2 rfl (by omega) _ _ _ rfl (HOwn.out) ⟨w6.heap.size, 0, none⟩ 1 1 (holV [⟨kx, ⟨lx, hx⟩, mx⟩]) rfl rfl hcz (holV_one _) ?d1 ?d2 ?d3 ?_)
          case d1 => unfold maxLen; omega
          case d2 => omega
          case d3 => first | omega | (simp; omega)
          intro v5 w7 hown5 hg5 _ hat
          have O7 := OwnT.pushQ (x := ⟨kx, ⟨lx, hx⟩, mx⟩) (O6.below bone) (by rw [HNs.out.2.2]; exact hown5) hg5 (hat.imp id fun h => h.trans (by simp))
          obtain ⟨A5, c5, e5, _, _⟩ := ow_shape hown5
          subst e5
          have bo7 := blk_grown (bo6.alloc (.cells #[.int .i64 kx, .int .i64 lx, .int .i64 hx, .int .i8 mx] 43)) hg5 (ow_blk HOwn.out (bo6.alloc _) (by decide))
          have bt7 := blk_grown (bt6.alloc (.cells #[.int .i64 kx, .int .i64 lx, .int .i64 hx, .int .i8 mx] 43)) hg5 (ow_blk HOwn.out (bt6.alloc _) (by decide))
          have br7 := blk_grown (br6.alloc (.cells #[.int .i64 kx, .int .i64 lx, .int .i64 hx, .int .i8 mx] 43)) hg5 (ow_blk HOwn.out (br6.alloc _) (by decide))
          have hb7 : Below w.heap.size w w7 := (below_then hb6 bone).grown hg5 (by have := (below_then hb6 bone).size; omega) (fun j hj => by have := (HOwn.out.lt j hj).1; omega)
          have hs7 : B0 ≤ w7.heap.size := Nat.le_trans hB6 (Nat.le_trans bone.size hg5.size)
          have O8 := O7.set bo7 2 (.slice A5 (mq + 1) c5)
          have bo8 := bo7.set 2 (.slice A5 (mq + 1) c5)
          have bt8 := bt7.other (c := o) (by omega) 2 (.slice A5 (mq + 1) c5)
          have br8 := br7.other (c := o) (by omega) 2 (.slice A5 (mq + 1) c5)
          have hb8 : Below w.heap.size w (w7.setCell ⟨o, 2, none⟩ (.slice A5 (mq + 1) c5)) := hb7.setCell (by show w.heap.size ≤ o; omega) _
          have hs8 : B0 ≤ (w7.setCell ⟨o, 2, none⟩ (.slice A5 (mq + 1) c5)).heap.size := by simpa [World.setCell] using hs7
          have HRel : Hid (OwnT (w7.setCell ⟨o, 2, none⟩ (.slice A5 (mq + 1) c5)) B0 (.slice AS nS cS0) (.slice AH mh cH') (.slice A5 (mq + 1) c5) ⟨t.sl, hs, qs ++ [⟨kx, ⟨lx, hx⟩, mx⟩]⟩ ∧ Blk (w7.setCell ⟨o, 2, none⟩ (.slice A5 (mq + 1) c5)) o #[.slice AS nS cS0, .slice AH mh cH', .slice A5 (mq + 1) c5] 29 ∧ Blk (w7.setCell ⟨o, 2, none⟩ (.slice A5 (mq + 1) c5)) w.heap.size #[vS, .slice aH nH cH, .slice (some ad) nQ cQ] 29 ∧ Blk (w7.setCell ⟨o, 2, none⟩ (.slice A5 (mq + 1) c5)) (w.heap.size + 1) #[.slice none 0 0, .slice none 0 0, .slice none 0 0] 29 ∧ Below w.heap.size w (w7.setCell ⟨o, 2, none⟩ (.slice A5 (mq + 1) c5)) ∧ B0 ≤ (w7.setCell ⟨o, 2, none⟩ (.slice A5 (mq + 1) c5)).heap.size) := ⟨O8, bo8, bt8, br8, hb8, hs8⟩
          have f7 := bo7.free 2
          have lo7 := bo7.lt
          obtain ⟨s70, s71, s72⟩ := tab_cells bo7
          have HLen' : Hid ((qs ++ [(⟨kx, ⟨lx, hx⟩, mx⟩ : HoldM)]).length = mq + 1) := by show _ = _; rw [List.length_append, HNs.out.2.2]; rfl
          clear O6 bo6 bt6 br6 hb6 O7 bo7 bt7 br7 hb7 hs7 O8 bo8 bt8 br8 hb8 hs8 hown5 hg5 hat bone hcz HOwn hB6 s60 s61 s62
          go_wp2_with fail
          go_roundw
          case rel => exact ⟨k + 1, _, _, _, _, by omega, by go_num, HF, HRel.out.1, HRel.out.2.1, HRel.out.2.2.1, HRel.out.2.2.2.1, HRel.out.2.2.2.2.1, HRel.out.2.2.2.2.2, by have h1 := HNs.out.2.1; have h2 := HNs.out.2.2; simp; omega⟩
          case measure => simp [intOf]; omega
        | true =>
          have HF := Lib.hid (grant_yes HX.out.1 HX.out.2 HG.out HF1.out hf2)
          clear hf2 HG
          have bone := new_alloc w6 (.cells #[.int .i64 kx, .int .i64 lx, .int .i64 hx, .int .i8 mx] 43)
          have lone := LiesH.just (Blk.new w6 #[.int .i64 kx, .int .i64 lx, .int .i64 hx, .int .i8 mx] 43)
          obtain ⟨pz, ez, _, hcz⟩ := lone.2.2 (by omega)
          injection ez with ez
          subst ez
          have HOwn := Lib.hid (ow_up (O6.rowH HNs.out.2.1) bone)
          clear lone
          go_wp2_with (at_builtin; refine wpList_append_own_at _ rfl _ _ 27 rfl B0 43 i0 _ 4 32 Try.underlying27 hi0 hz0 hz1 hz2 rfl (by omega) _ _ _ rfl (HOwn.out) ⟨w6.heap.size, 0, none⟩ 1 1 (holV [⟨kx, ⟨lx, hx⟩, mx⟩]) rfl rfl hcz (holV_one _) ?d1 ?d2 ?d3 ?_)
          case d1 => unfold maxLen; omega
          case d2 => omega
          case d3 => first | omega | (simp; omega)
          intro v5 w7 hown5 hg5 _ hat
          have O7 := OwnT.pushH (x := ⟨kx, ⟨lx, hx⟩, mx⟩) (O6.below bone) (by rw [HNs.out.2.1]; exact hown5) hg5 (hat.imp id fun h => h.trans (by simp))
          obtain ⟨A5, c5, e5, _, _⟩ := ow_shape hown5
          subst e5
          have bo7 := blk_grown (bo6.alloc (.cells #[.int .i64 kx, .int .i64 lx, .int .i64 hx, .int .i8 mx] 43)) hg5 (ow_blk HOwn.out (bo6.alloc _) (by decide))
          have bt7 := blk_grown (bt6.alloc (.cells #[.int .i64 kx, .int .i64 lx, .int .i64 hx, .int .i8 mx] 43)) hg5 (ow_blk HOwn.out (bt6.alloc _) (by decide))
          have br7 := blk_grown (br6.alloc (.cells #[.int .i64 kx, .int .i64 lx, .int .i64 hx, .int .i8 mx] 43)) hg5 (ow_blk HOwn.out (br6.alloc _) (by decide))
          have hb7 : Below w.heap.size w w7 := (below_then hb6 bone).grown hg5 (by have := (below_then hb6 bone).size; omega) (fun j hj => by have := (HOwn.out.lt j hj).1; omega)
          have hs7 : B0 ≤ w7.heap.size := Nat.le_trans hB6 (Nat.le_trans bone.size hg5.size)
          have O8 := O7.set bo7 1 (.slice A5 (mh + 1) c5)
          have bo8 := bo7.set 1 (.slice A5 (mh + 1) c5)
          have bt8 := bt7.other (c := o) (by omega) 1 (.slice A5 (mh + 1) c5)
          have br8 := br7.other (c := o) (by omega) 1 (.slice A5 (mh + 1) c5)
          have hb8 : Below w.heap.size w (w7.setCell ⟨o, 1, none⟩ (.slice A5 (mh + 1) c5)) := hb7.setCell (by show w.heap.size ≤ o; omega) _
          have hs8 : B0 ≤ (w7.setCell ⟨o, 1, none⟩ (.slice A5 (mh + 1) c5)).heap.size := by simpa [World.setCell] using hs7
          have HRel : Hid (OwnT (w7.setCell ⟨o, 1, none⟩ (.slice A5 (mh + 1) c5)) B0 (.slice AS nS cS0) (.slice A5 (mh + 1) c5) (.slice AQ mq cQ') ⟨t.sl, hs ++ [⟨kx, ⟨lx, hx⟩, mx⟩], qs⟩ ∧ Blk (w7.setCell ⟨o, 1, none⟩ (.slice A5 (mh + 1) c5)) o #[.slice AS nS cS0, .slice A5 (mh + 1) c5, .slice AQ mq cQ'] 29 ∧ Blk (w7.setCell ⟨o, 1, none⟩ (.slice A5 (mh + 1) c5)) w.heap.size #[vS, .slice aH nH cH, .slice (some ad) nQ cQ] 29 ∧ Blk (w7.setCell ⟨o, 1, none⟩ (.slice A5 (mh + 1) c5)) (w.heap.size + 1) #[.slice none 0 0, .slice none 0 0, .slice none 0 0] 29 ∧ Below w.heap.size w (w7.setCell ⟨o, 1, none⟩ (.slice A5 (mh + 1) c5)) ∧ B0 ≤ (w7.setCell ⟨o, 1, none⟩ (.slice A5 (mh + 1) c5)).heap.size) := ⟨O8, bo8, bt8, br8, hb8, hs8⟩
          have f7 := bo7.free 1
          have lo7 := bo7.lt
          obtain ⟨s70, s71, s72⟩ := tab_cells bo7
          have HLen' : Hid ((hs ++ [(⟨kx, ⟨lx, hx⟩, mx⟩ : HoldM)]).length = mh + 1) := by show _ = _; rw [List.length_append, HNs.out.2.1]; rfl
          clear O6 bo6 bt6 br6 hb6 O7 bo7 bt7 br7 hb7 hs7 O8 bo8 bt8 br8 hb8 hs8 hown5 hg5 hat bone hcz HOwn hB6 s60 s61 s62
          go_wp2_with fail
          go_roundw
          case rel => exact ⟨k + 1, _, _, _, _, by omega, by go_num, HF, HRel.out.1, HRel.out.2.1, HRel.out.2.2.1, HRel.out.2.2.2.1, HRel.out.2.2.2.2.1, HRel.out.2.2.2.2.2, by have h1 := HNs.out.2.1; have h2 := HNs.out.2.2; simp; omega⟩
          case measure => simp [intOf]; omega
    · have HT : Hid (grantT t = ⟨t.sl, hs, qs⟩) := by
        have h := HG.out
        rw [List.take_of_length_le (by rw [HLQ.out]; omega)] at h
        show _ = _
        unfold grantT
        rw [h]
      have HOw := Lib.hid O
      have br0 := Lib.hid br
      have hth := br.there
      have bz := setCells_below [.slice AS nS cS0, .slice AH mh cH', .slice AQ mq cQ'] 0 hb (show w.heap.size ≤ w.heap.size + 1 by omega)
      have OF : Hid (OwnT (wr.setCells (w.heap.size + 1) 0 [.slice AS nS cS0, .slice AH mh cH', .slice AQ mq cQ']) w.heap.size (.slice AS nS cS0) (.slice AH mh cH') (.slice AQ mq cQ') ⟨t.sl, hs, qs⟩) := by
        have h1 := O.set br 0 (.slice AS nS cS0)
        have h2 := h1.set (br.set 0 (.slice AS nS cS0)) 1 (.slice AH mh cH')
        have h3 := h2.set ((br.set 0 (.slice AS nS cS0)).set 1 (.slice AH mh cH')) 2 (.slice AQ mq cQ')
        exact h3.less (by omega)
      have hkn : k = nQ := by omega
      clear hlt O br bt hb HG
      go_wp2_with (refine wpList_store_mid (op := ⟨none, .store 29 _ _, _, _, _, none⟩) rfl 29 _ _ (by rfl) (w.heap.size + 1) 0 #[.slice AS nS cS0, .slice AH mh cH', .slice AQ mq cQ'] (by rfl) (by rfl) (by assumption) (by kernel_rfl) (by kernel_rfl) ?_)
      refine bodyPost_ret (results_cell (cs := [.slice AS nS cS0, .slice AH mh cH', .slice AQ mq cQ']) Try.results25 (by rfl) (World.rangeAt_setCells_same _ _ _ _ hth) Try.underlying29 rfl (by kernel_rfl)) rfl ?_
      exact ⟨_, _, _, rfl, by rw [HT.out]; exact OF.out, bz⟩

end Go.Proofs.Ytjknloaolennoaa

/-
  table: New: by contract.
-/
namespace Go.Proofs.Ytjknloaolennoaa
open Go.RowKit
set_option linter.unusedVariables false
set_option linter.unusedSimpArgs false

theorem slo_zeros (n : Nat) : sloV (List.replicate n ⟨0, 0⟩) = List.replicate (n * 2) (.int .i64 0) := by
  induction n with
  | zero => rfl
  | succ n ih =>
    have e : ∀ (z : SlotM) (q : List SlotM), sloV (z :: q) = .int .i64 z.key :: .int .i64 z.claim :: sloV q := fun _ _ => rfl
    rw [List.replicate_succ, e, ih, show (n + 1) * 2 = n * 2 + 1 + 1 by omega, List.replicate_succ, List.replicate_succ]
theorem made_slots (n : Nat) : (madeCells #[Value.int .i64 0, .int .i64 0] (n * 2)).toList = sloV (List.replicate n ⟨0, 0⟩) := by
  rw [slo_zeros]
  apply List.ext_getElem
  · simp [madeCells]
  · intro i h1 h2
    rw [List.getElem_replicate]
    have hi : i % 2 < 2 := Nat.mod_lt _ (by decide)
    simp [madeCells]
    rcases (by omega : i % 2 = 0 ∨ i % 2 = 1) with h | h <;> rw [h] <;> rfl
theorem newT_len (n : Nat) : (newT n).sl.length = n ∧ (newT n).ho.length = 0 ∧ (newT n).qu.length = 0 := ⟨by simp [newT], rfl, rfl⟩

set_option maxRecDepth 100000 in
set_option maxHeartbeats 2000000 in
theorem tNew_any (N S B P J L E T : Int) (w : World) (h0 : 0 ≤ S) (h16 : S ≤ 16) :
    Calls Try.prog 7 #[.agg #[.int .i64 N, .int .i64 S, .int .i64 B, .int .i64 P, .int .i64 J, .int .i64 L, .int .i64 E, .int .i64 T]] w fun e w' => ∃ v, e = .returned v ∧ TabAt w' v (newT S.toNat) ∧ Below w.heap.size w w' := by
  obtain ⟨n, rfl⟩ : ∃ n : Nat, S = (n : Int) := ⟨S.toNat, by omega⟩
  rw [Int.toNat_natCast]
  obtain ⟨W0, hW0⟩ : ∃ W0, W0 = (w.alloc (.cells #[.int .i64 N, .int .i64 n, .int .i64 B, .int .i64 P, .int .i64 J, .int .i64 L, .int .i64 E, .int .i64 T] 23)).alloc (.cells #[.slice none 0 0, .slice none 0 0, .slice none 0 0] 29) := ⟨_, rfl⟩
  have hb0 : Below w.heap.size w W0 := by rw [hW0]; exact two_new _ _ _
  obtain ⟨pg, pr⟩ : Blk W0 w.heap.size #[.int .i64 N, .int .i64 n, .int .i64 B, .int .i64 P, .int .i64 J, .int .i64 L, .int .i64 E, .int .i64 T] 23 ∧ Blk W0 (w.heap.size + 1) #[.slice none 0 0, .slice none 0 0, .slice none 0 0] 29 := hW0 ▸ blk2 w _ _ _ _
  obtain ⟨i0, hi0, hz0, hz1, hz2⟩ := info_parts tinfoSlot
  obtain ⟨g0, g1, g2, g3, g4, g5, g6, g7⟩ := tgeo_cells pg
  have hlg := pg.lt
  have hn : n ≤ 16 := by omega
  have hm1 : max (n : Int) 0 = (n : Int) := by omega
  have hm2 : min (n : Int) 16 = (n : Int) := by omega
  clear h0 h16
  go_enter Try.func7, Try.ntmps7
  go_upto_region 1 with fail
  rw [← hW0]
  clear hW0
  have hs0 := hb0.size
  go_wp2_with (at_make; refine wpList_make_full _ rfl _ _ 26 rfl W0.heap.size 48 i0 (.agg #[.int .i64 0, .int .i64 0]) 2 Try.underlying26 hi0 hz0 hz1 .i64 .i64 _ _ n rfl rfl rfl rfl (by rw [hz2]; omega) (by unfold maxLen; omega) (Nat.le_refl _) ?_; intro w1 hown1 hg1; have hp1 := blk_grown (v := .slice none 0 0) pr hg1 (by simp [Value.ownBlock]); obtain ⟨z0, z1, z2⟩ := tab_cells hp1; have f0 := hp1.free 0; have f1 := hp1.free 1; have f2 := hp1.free 2; have hl1 := hp1.lt)
  have rr := ((hp1.set 0 (.slice (some ⟨W0.heap.size, 0, none⟩) n n)).set 1 (.slice none 0 0)).set 2 (.slice none 0 0)
  have hB1 : Below w.heap.size w w1 := hb0.grown hg1 (by omega) (fun j hj => by cases hj)
  have hB : Below w.heap.size w (((w1.setCell ⟨w.heap.size + 1, 0, none⟩ (.slice (some ⟨W0.heap.size, 0, none⟩) n n)).setCell ⟨w.heap.size + 1, 1, none⟩ (.slice none 0 0)).setCell ⟨w.heap.size + 1, 2, none⟩ (.slice none 0 0)) := ((hB1.setCell (by simp) _).setCell (by simp) _).setCell (by simp) _
  have hne : (Value.slice (some ⟨W0.heap.size, 0, none⟩) n n).ownBlock ≠ some (w.heap.size + 1) := by
    have := pr.lt
    simp [Value.ownBlock]
    omega
  have hT : TabAt (((w1.setCell ⟨w.heap.size + 1, 0, none⟩ (.slice (some ⟨W0.heap.size, 0, none⟩) n n)).setCell ⟨w.heap.size + 1, 1, none⟩ (.slice none 0 0)).setCell ⟨w.heap.size + 1, 2, none⟩ (.slice none 0 0)) (.agg #[.slice (some ⟨W0.heap.size, 0, none⟩) n n, .slice none 0 0, .slice none 0 0]) (newT n) := by
    refine ⟨_, _, _, rfl, SloAt.own (e := 48) (B := W0.heap.size) (n := n) ?_ (newT_len n).1, HolAt.nothing _, HolAt.nothing _⟩
    have h1 : w1.ownsRow W0.heap.size 48 2 (.slice (some ⟨W0.heap.size, 0, none⟩) n n) n (sloV (newT n).sl) := by
      have h2 := hown1
      rw [show (Value.agg #[Value.int .i64 0, .int .i64 0]).cells = #[Value.int .i64 0, .int .i64 0] from rfl, made_slots] at h2
      exact h2
    exact ownsRow_setCell_other (ownsRow_setCell_other (ownsRow_setCell_other h1 hne _) hne _) hne _
  refine bodyPost_ret (results_cell (cs := [.slice (some ⟨W0.heap.size, 0, none⟩) n n, .slice none 0 0, .slice none 0 0]) Try.results7 (by rfl) rr.range Try.underlying29 rfl (by kernel_rfl)) rfl ?_
  exact ⟨_, rfl, hT, hB⟩

end Go.Proofs.Ytjknloaolennoaa

/-
  The document's May of a table: by contract.
-/
namespace Go.Proofs.Ytjknloaolennoaa
open Go.RowKit
set_option linter.unusedVariables false
set_option linter.unusedSimpArgs false

theorem LiesH.take {w : World} {B n : Nat} {A : Option Addr} {l : List HoldM} (h : LiesH w B A n l) (k : Nat) (hk : k ≤ n) : LiesH w B A k (l.take k) := by
  refine ⟨by rw [List.length_take, h.1]; omega, by rw [holV_length, List.length_take, h.1]; omega, fun h0 => ?_⟩
  obtain ⟨p, e, hb, hc⟩ := h.2.2 (by omega)
  refine ⟨p, e, hb, fun j u hj => hc j u ?_⟩
  rw [← holV_take] at hj
  rw [List.getElem?_take] at hj
  split at hj
  · exact hj
  · cases hj
theorem geo_cells {w : World} {q : Nat} {a b c d e f g h : Int} {T : TypeId} (p : Blk w q #[.int .i64 a, .int .i64 b, .int .i64 c, .int .i64 d, .int .i64 e, .int .i64 f, .int .i64 g, .int .i64 h] T) :
    w.cell? ⟨q, 0, none⟩ = some (.int .i64 a) ∧ w.cell? ⟨q, 1, none⟩ = some (.int .i64 b) ∧ w.cell? ⟨q, 2, none⟩ = some (.int .i64 c) ∧ w.cell? ⟨q, 3, none⟩ = some (.int .i64 d) ∧ w.cell? ⟨q, 4, none⟩ = some (.int .i64 e) ∧ w.cell? ⟨q, 5, none⟩ = some (.int .i64 f) ∧ w.cell? ⟨q, 6, none⟩ = some (.int .i64 g) ∧ w.cell? ⟨q, 7, none⟩ = some (.int .i64 h) :=
  ⟨p.cell 0 _ rfl, p.cell 1 _ rfl, p.cell 2 _ rfl, p.cell 3 _ rfl, p.cell 4 _ rfl, p.cell 5 _ rfl, p.cell 6 _ rfl, p.cell 7 _ rfl⟩

set_option maxRecDepth 100000 in
set_option maxHeartbeats 4000000 in
theorem refTMay_any (N S B P J L E T : Int) (vS vH vQ : Value) (t : TabM) (w : World) (hS : SloAt w vS t.sl) (hH : HolAt w vH t.ho) (hQ : HolAt w vQ t.qu) (hSm : TabSm t) :
    Calls Try.prog 10 #[.agg #[.int .i64 N, .int .i64 S, .int .i64 B, .int .i64 P, .int .i64 J, .int .i64 L, .int .i64 E, .int .i64 T], .agg #[vS, vH, vQ]] w fun e w' => e = .returned (.bool (mayTB S B t)) ∧ Below w.heap.size w w' := by
  have hGrant := fun W (h : Below w.heap.size w W) => refGrant_any vS vH vQ t W (hS.below h) (hH.below h) (hQ.below h) hSm
  have hAll := fun W key (h : Below w.heap.size w W) => refAllOf_any vS vH vQ t.ho t.qu key W (hH.below h) (hQ.below h) hSm.2.1 hSm.2.2
  obtain ⟨aS, cS, rfl, lS, hS1, hS2, hS3⟩ := hS
  obtain ⟨aH, cH, rfl, lH, hH1, hH2, hH3⟩ := hH
  obtain ⟨aQ, cQ, rfl, lQ, hQ1, hQ2, hQ3⟩ := hQ
  obtain ⟨hnS, hnH, hnQ⟩ := hSm
  obtain ⟨nS, enS⟩ : ∃ n, t.sl.length = n := ⟨_, rfl⟩
  obtain ⟨nH, enH⟩ : ∃ n, t.ho.length = n := ⟨_, rfl⟩
  obtain ⟨nQ, enQ⟩ : ∃ n, t.qu.length = n := ⟨_, rfl⟩
  rw [enS] at lS hnS hGrant hAll ⊢
  rw [enH] at lH hnH hGrant hAll ⊢
  rw [enQ] at lQ hnQ hGrant hAll ⊢
  obtain ⟨l, hl⟩ : ∃ l, t.ho ++ t.qu = l := ⟨_, rfl⟩
  rw [hl] at hAll
  have HLen : Hid (l.length = nH + nQ) := by show _ = _; rw [← hl, List.length_append, enH, enQ]
  have HE := Lib.hid hl
  have HLS := Lib.hid enS
  have HLQ := Lib.hid enQ
  clear hS1 hS2 hS3 hH1 hH2 hH3 hQ1 hQ2 enS enH enQ hl
  obtain ⟨W0, hW⟩ : ∃ W0, W0 = (w.alloc (.cells #[.int .i64 N, .int .i64 S, .int .i64 B, .int .i64 P, .int .i64 J, .int .i64 L, .int .i64 E, .int .i64 T] 23)).alloc (.cells #[.slice aS nS cS, .slice aH nH cH, .slice aQ nQ cQ] 29) := ⟨_, rfl⟩
  have hbw : Below w.heap.size w W0 := hW ▸ two_new _ _ _
  obtain ⟨pg, p0⟩ : Blk W0 w.heap.size #[.int .i64 N, .int .i64 S, .int .i64 B, .int .i64 P, .int .i64 J, .int .i64 L, .int .i64 E, .int .i64 T] 23 ∧ Blk W0 (w.heap.size + 1) #[.slice aS nS cS, .slice aH nH cH, .slice aQ nQ cQ] 29 := hW ▸ blk2 w _ _ _ _
  have hSlots := Lib.hid (fun W (h : Below W0.heap.size W0 W) => refSlots_any aS nS cS t.sl (.slice aH nH cH) (.slice aQ nQ cQ) W (lS.below (below_then hbw h)) (by unfold maxLen; omega))
  have hAllH := Lib.hid (fun W (h : Below W0.heap.size W0 W) => refAll_any aH nH cH t.ho W (lH.below (below_then hbw h)) (by unfold maxLen; omega))
  have hSlot := Lib.hid (fun W key (h : Below W0.heap.size W0 W) => refSlot_any aS nS cS t.sl (.slice aH nH cH) (.slice aQ nQ cQ) key W (lS.below (below_then hbw h)) (by unfold maxLen; omega))
  have hGrant := Lib.hid (fun W (h : Below W0.heap.size W0 W) => hGrant W (below_then hbw h))
  have hAll := Lib.hid (fun W key (h : Below W0.heap.size W0 W) => hAll W key (below_then hbw h))
  have HH : Hid (∀ W, Below W0.heap.size W0 W → LiesH W W.heap.size aH nH t.ho) := fun W h => lH.below (below_then hbw h)
  have HQ : Hid (∀ W, Below W0.heap.size W0 W → LiesH W W.heap.size aQ nQ t.qu) := fun W h => lQ.below (below_then hbw h)
  have HQ3 := Lib.hid hQ3
  obtain ⟨t0, t1, t2⟩ := tab_cells p0
  obtain ⟨g0, g1, g2, g3, g4, g5, g6, g7⟩ := geo_cells pg
  have hlg := pg.lt
  have hlt := p0.lt
  clear lS lH lQ hQ3
  go_enter Try.func10, Try.ntmps10
  by_cases hNS : (nS : Int) = S
  · have HNS := Lib.hid hNS
    have z0 : ((nS : Int) != S) = false := by simp [hNS]
    clear hNS
    go_wp2_with fail
    rw [← hW]
    clear hW
    refine (hSlots.out _ (Below.refl _ _)).mono ?_
    rintro e w1 ⟨rfl, hb1⟩
    have p1 := p0.below hb1 p0.lt
    have pg1 := pg.below hb1 pg.lt
    clear t0 t1 t2 g0 g1 g2 g3 g4 g5 g6 g7 hlg hlt
    obtain ⟨t0, t1, t2⟩ := tab_cells p1
    have hlt := p1.lt
    cases hs1 : slotsB t.sl with
    | false =>
      have HV : Hid (mayTB S B t = false) := may_slots hs1
      clear hs1
      go_wp2_with fail
      go_ret
      exact ⟨by rw [HV.out] <;> rfl, below_then hbw hb1⟩
    | true =>
      have HSl := Lib.hid hs1
      clear hs1
      go_wp2_with fail
      refine (hAllH.out _ hb1).mono ?_
      rintro e w2 ⟨rfl, hb2'⟩
      have hb2 := below_then hb1 hb2'
      have p2 := p1.below hb2' p1.lt
      have pg2 := pg1.below hb2' pg1.lt
      clear hb2' p1 pg1 hb1 t0 t1 t2 hlt p0 pg
      obtain ⟨t0, t1, t2⟩ := tab_cells p2
      have hlt := p2.lt
      cases hs2 : sAll t.ho with
      | false =>
        have HV : Hid (mayTB S B t = false) := may_all hs2
        clear hs2
        go_wp2_with fail
        go_ret
        exact ⟨by rw [HV.out] <;> rfl, below_then hbw hb2⟩
      | true =>
        have HAl := Lib.hid hs2
        clear hs2
        have HS : Hid (∀ W VV, Below w2.heap.size w2 VV → Below VV.heap.size VV W → (W.cell? ⟨w.heap.size + 1, 0, none⟩ = some (.slice aS nS cS) ∧ W.cell? ⟨w.heap.size + 1, 1, none⟩ = some (.slice aH nH cH) ∧ W.cell? ⟨w.heap.size + 1, 2, none⟩ = some (.slice aQ nQ cQ)) ∧ Below VV.heap.size VV W) := fun W VV h1 h2 => ⟨tab_cells (p2.below (below_then h1 h2) p2.lt), h2⟩
        obtain ⟨i0, hi0, hz0, hz1, hz2⟩ := info_parts tinfoHold
        go_upto_region 3 with fail
        obtain ⟨V0, zV0⟩ : ∃ V, V = (w2).drew := ⟨_, rfl⟩
        have up0 : Below (w2).heap.size (w2) V0 := zV0 ▸ (Below.refl _ _).drew
        have hS2 : Hid (∀ W, Below V0.heap.size V0 W → (W.cell? ⟨w.heap.size + 1, 0, none⟩ = some (.slice aS nS cS) ∧ W.cell? ⟨w.heap.size + 1, 1, none⟩ = some (.slice aH nH cH) ∧ W.cell? ⟨w.heap.size + 1, 2, none⟩ = some (.slice aQ nQ cQ)) ∧ Below V0.heap.size V0 W) := fun W h => HS.out W V0 up0 h
        have bV0 := Below.refl V0.heap.size V0
        refine wp_region_held_drew (S := (fun W => (W.cell? ⟨w.heap.size + 1, 0, none⟩ = some (.slice aS nS cS) ∧ W.cell? ⟨w.heap.size + 1, 1, none⟩ = some (.slice aH nH cH) ∧ W.cell? ⟨w.heap.size + 1, 2, none⟩ = some (.slice aQ nQ cQ)) ∧ Below V0.heap.size V0 W)) (by kernel_rfl) ?_ (fun hHeld => ?_)
        focus (rw [← zV0]; exact hS2.out _ (Below.refl _ _))
        rw [← zV0] at hHeld ⊢
        clear zV0
        refine wpAnyH_take (i := 1) (oi := ⟨some 27, _, _, _, _, _⟩) (v := ?_) rfl (by kernel_rfl) (by kernel_rfl) (by kernel_rfl) (fun _ _ _ h => h) (Or.inl ⟨by rfl, ?_⟩) (by assumption) ?_
        rotate_left
        focus (intro wq hSq; (try dsimp only at hSq); go_simp; try with_reducible rfl)
        try simp only [Act.put, List.setIfInBounds_toArray, List.set_cons_zero, List.set_cons_succ]
        refine wpAnyH_take (i := 2) (oi := ⟨some 28, _, _, _, _, _⟩) (v := ?_) rfl (by kernel_rfl) (by kernel_rfl) (by kernel_rfl) (fun _ _ _ h => h) (Or.inl ⟨by rfl, ?_⟩) (by assumption) ?_
        rotate_left
        focus (intro wq hSq; (try dsimp only at hSq); go_simp; try with_reducible rfl)
        try simp only [Act.put, List.setIfInBounds_toArray, List.set_cons_zero, List.set_cons_succ]
        refine wpAnyH_take (i := 4) (oi := ⟨some 30, _, _, _, _, _⟩) (v := ?_) rfl (by kernel_rfl) (by kernel_rfl) (by kernel_rfl) (fun _ _ _ h => h) (Or.inl ⟨by rfl, ?_⟩) (by assumption) ?_
        rotate_left
        focus (intro wq hSq; (try dsimp only at hSq); go_simp; try with_reducible rfl)
        try simp only [Act.put, List.setIfInBounds_toArray, List.set_cons_zero, List.set_cons_succ]
        refine wpAnyH_take (i := 5) (oi := ⟨some 31, _, _, _, _, _⟩) (v := ?_) rfl (by kernel_rfl) (by kernel_rfl) (by kernel_rfl) (fun _ _ _ h => h) (Or.inl ⟨by rfl, ?_⟩) (by assumption) ?_
        rotate_left
        focus (intro wq hSq; (try dsimp only at hSq); go_simp; try with_reducible rfl)
        try simp only [Act.put, List.setIfInBounds_toArray, List.set_cons_zero, List.set_cons_succ]
        refine wpAnyH_ready (rs := [0]) (by kernel_rfl) (by simp) ?_
        refine AllReadyH.cons (o := ⟨some 26, _, _, _, _, _⟩) rfl (fun K hK => ?_) AllReadyH.nil
        have bV1 : Below V0.heap.size V0 (V0.alloc (.cells #[] 43)) := bV0.alloc bV0.size _
        have litV1 : (V0.alloc (.cells #[] 43)).ownsRow V0.heap.size 43 4 (.slice (some ⟨V0.heap.size, 0, none⟩) 0 0) 0 [] := World.ownsRow_lit V0 #[] 0 bV0.size (Nat.zero_le _) rfl
        go_simp
        refine hK.out _ _ ?_ (fun hHeld => ?_)
        focus (exact hS2.out _ bV1)
        clear hK K
        try simp only [Act.put, List.setIfInBounds_toArray, List.set_cons_zero, List.set_cons_succ]
        obtain ⟨V1, zV1⟩ : ∃ W, W = (V0.alloc (.cells #[] 43)) := ⟨_, rfl⟩
        rw [← zV1] at bV1 litV1 ⊢
        clear zV1 hHeld
        refine wpAnyH_ready (rs := [3]) (by kernel_rfl) (by simp) ?_
        refine AllReadyH.cons (o := ⟨some 29, _, _, _, _, _⟩) rfl (fun K hK => ?_) AllReadyH.nil
        obtain ⟨A1, c1, V2, hrun, accV2, upV2⟩ := append_first (P := Try.prog) V1 V1.heap.size V0.heap.size 27 27 43 i0 _ 4 32 Try.underlying27 hi0 hz0 hz1 hz2 rfl (by omega) V0.heap.size litV1 bV1.size aH nH cH (holV t.ho) ((HH.out _ (below_then hb2 (below_then up0 bV1))).2) (by unfold maxLen; omega) (by omega)
        have bV2 : Below V0.heap.size V0 V2 := below_then bV1 upV2
        refine step_append rfl (.tmp 26) (.tmp 28) 27 rfl (by simp [Act.eval, Act.put]) (by simp [Act.eval, Act.put]) hrun ?_
        refine hK.out _ _ ?_ (fun hHeld => ?_)
        focus (exact hS2.out _ bV2)
        clear hK K hrun hHeld
        try simp only [Act.put, List.setIfInBounds_toArray, List.set_cons_zero, List.set_cons_succ]
        refine wpAnyH_ready (rs := [6]) (by kernel_rfl) (by simp) ?_
        refine AllReadyH.cons (o := ⟨some 32, _, _, _, _, _⟩) rfl (fun K hK => ?_) AllReadyH.nil
        obtain ⟨A2, c2, V3, hrun, accV3, upV3⟩ := append_behind (P := Try.prog) V2 V2.heap.size V0.heap.size 27 27 43 i0 _ 4 32 Try.underlying27 hi0 hz0 hz1 hz2 rfl (by omega) (.slice A1 nH c1) nH (holV t.ho) accV2 bV2.size aQ nQ cQ (holV t.qu) ((HQ.out _ (below_then hb2 (below_then up0 bV2))).2) (holV_one _) (by unfold maxLen; omega) (by omega) HQ3.out
        have bV3 : Below V0.heap.size V0 V3 := bV2.trans upV3
        refine step_append rfl (.tmp 29) (.tmp 31) 27 rfl (by simp [Act.eval, Act.put]) (by simp [Act.eval, Act.put]) hrun ?_
        refine hK.out _ _ ?_ (fun hHeld => ?_)
        focus (exact hS2.out _ bV3)
        clear hK K hrun hHeld
        try simp only [Act.put, List.setIfInBounds_toArray, List.set_cons_zero, List.set_cons_succ]
        have hHeld := hS2.out _ bV3
        refine wpAnyH_take (i := 7) (oi := ⟨some 5, _, _, _, _, _⟩) (v := ?_) rfl (by kernel_rfl) (by kernel_rfl) (by kernel_rfl) (fun _ _ _ h => h) (Or.inl ⟨by rfl, ?_⟩) (by assumption) ?_
        rotate_left
        focus (intro wq hSq; (try dsimp only at hSq); go_simp; try with_reducible rfl)
        try simp only [Act.put, List.setIfInBounds_toArray, List.set_cons_zero, List.set_cons_succ]
        refine wpAnyH_done (by kernel_rfl) ?_ _
        have upV3 : Below W0.heap.size W0 V3 := below_then hb2 (below_then up0 bV3)
        have P3 := p2.below (below_then up0 bV3) p2.lt
        have PG3 := pg2.below (below_then up0 bV3) pg2.lt
        rw [← holV_append, HE.out] at accV3
        have HR : Hid (HolAt V3 (.slice A2 (nH + nQ) c2) l) := HolAt.own accV3 HLen.out
        have hn : nH + nQ ≤ 2199023255552 := by omega
        obtain ⟨n, en⟩ : ∃ n, nH + nQ = n := ⟨_, rfl⟩
        rw [en] at HR HLen hn ⊢
        obtain ⟨A3, c3, e3, l3, hcap, hc3, _⟩ := HR.out
        rw [HLen.out] at e3 l3 hcap
        injection e3 with e3 e4 e5
        subst e3 e5
        have HA : Hid (∀ W, Below V3.heap.size V3 W → LiesH W W.heap.size A2 n l) := fun W h => l3.below h
        clear accV3 HR l3 HS HH HQ hHeld hS2 bV0 bV1 bV2 bV3 up0 litV1 accV2 upV2 HQ3 e4 p2 pg2 hb2 t0 t1 t2 hlt hAllH hSlots en
        go_wp2_with fail
        go_loopw [6] (fun i wr => ∃ k : Nat, k ≤ n ∧ i = .int .i64 k ∧ Hid (okTo B t.sl l k) ∧ Below V3.heap.size V3 wr) (fun i _ => n - (intOf i).toNat)
        case atStart => exact ⟨0, Nat.zero_le _, rfl, fun j _ hj => by omega, Below.refl _ _⟩
        case round =>
          obtain ⟨k, hk, rfl, HO, hb⟩ := hrel
          have hsz := hb.size
          by_cases hlt : k < n
          · have hkl : k < l.length := by rw [HLen.out]; exact hlt
            obtain ⟨ad, e1, had, c0, c1', c2', c3'⟩ := hol_cells (HA.out _ hb) hlt hkl
            subst e1
            obtain ⟨kx, lx, hx, mx, hxx⟩ : ∃ kx lx hx' mx, l[k] = (⟨kx, ⟨lx, hx'⟩, mx⟩ : HoldM) := ⟨_, _, _, _, rfl⟩
            have HX : Hid (∃ h : k < l.length, l[k] = (⟨kx, ⟨lx, hx⟩, mx⟩ : HoldM)) := ⟨hkl, hxx⟩
            have hAd : Hid (∀ W, Below V3.heap.size V3 W → W.cell? (ad.add (k * 4)) = some (.int .i64 kx) ∧ W.cell? ⟨(ad.add (k * 4)).block, (ad.add (k * 4)).off + 1, none⟩ = some (.int .i64 lx) ∧ W.cell? ⟨(ad.add (k * 4)).block, (ad.add (k * 4)).off + 2, none⟩ = some (.int .i64 hx) ∧ W.cell? ⟨(ad.add (k * 4)).block, (ad.add (k * 4)).off + 3, none⟩ = some (.int .i8 mx)) := fun W hW => by
              obtain ⟨ad', e1, _, d0, d1, d2, d3⟩ := hol_cells (HA.out _ hW) hlt hkl
              injection e1 with e1
              subst e1
              rw [hxx] at d0 d1 d2 d3
              exact ⟨d0, d1, d2, d3⟩
            have hS : ∀ W, Below V3.heap.size V3 W → (W.cell? ⟨w.heap.size, 0, none⟩ = some (.int .i64 N) ∧ W.cell? ⟨w.heap.size, 1, none⟩ = some (.int .i64 S) ∧ W.cell? ⟨w.heap.size, 2, none⟩ = some (.int .i64 B) ∧ W.cell? ⟨w.heap.size, 3, none⟩ = some (.int .i64 P) ∧ W.cell? ⟨w.heap.size, 4, none⟩ = some (.int .i64 J) ∧ W.cell? ⟨w.heap.size, 5, none⟩ = some (.int .i64 L) ∧ W.cell? ⟨w.heap.size, 6, none⟩ = some (.int .i64 E) ∧ W.cell? ⟨w.heap.size, 7, none⟩ = some (.int .i64 T)) ∧ (W.cell? ⟨w.heap.size + 1, 0, none⟩ = some (.slice aS nS cS) ∧ W.cell? ⟨w.heap.size + 1, 1, none⟩ = some (.slice aH nH cH) ∧ W.cell? ⟨w.heap.size + 1, 2, none⟩ = some (.slice aQ nQ cQ)) ∧ (W.cell? (ad.add (k * 4)) = some (.int .i64 kx) ∧ W.cell? ⟨(ad.add (k * 4)).block, (ad.add (k * 4)).off + 1, none⟩ = some (.int .i64 lx) ∧ W.cell? ⟨(ad.add (k * 4)).block, (ad.add (k * 4)).off + 2, none⟩ = some (.int .i64 hx) ∧ W.cell? ⟨(ad.add (k * 4)).block, (ad.add (k * 4)).off + 3, none⟩ = some (.int .i8 mx)) ∧ Below V3.heap.size V3 W := fun W h => ⟨geo_cells (PG3.below h PG3.lt), tab_cells (P3.below h P3.lt), hAd.out W h, h⟩
            obtain ⟨r1, hr1⟩ : ∃ r, Hid ((slotO t.sl kx).2 = r) := ⟨_, rfl⟩
            obtain ⟨q1, hq1⟩ : ∃ r, Hid ((slotO t.sl kx).1 = r) := ⟨_, rfl⟩
            obtain ⟨r2, hr2⟩ : ∃ r, Hid (sHoldB B ⟨kx, ⟨lx, hx⟩, mx⟩ = r) := ⟨_, rfl⟩
            obtain ⟨r3, hr3⟩ : ∃ r, Hid (sTou (l.take k) kx ⟨lx, hx⟩ = r) := ⟨_, rfl⟩
            obtain ⟨m4, hm4⟩ : ∃ r, Hid ((ofKey l kx).length = r) := ⟨_, rfl⟩
            have hSl : ∀ W, (W.cell? ⟨w.heap.size, 0, none⟩ = some (.int .i64 N) ∧ W.cell? ⟨w.heap.size, 1, none⟩ = some (.int .i64 S) ∧ W.cell? ⟨w.heap.size, 2, none⟩ = some (.int .i64 B) ∧ W.cell? ⟨w.heap.size, 3, none⟩ = some (.int .i64 P) ∧ W.cell? ⟨w.heap.size, 4, none⟩ = some (.int .i64 J) ∧ W.cell? ⟨w.heap.size, 5, none⟩ = some (.int .i64 L) ∧ W.cell? ⟨w.heap.size, 6, none⟩ = some (.int .i64 E) ∧ W.cell? ⟨w.heap.size, 7, none⟩ = some (.int .i64 T)) ∧ (W.cell? ⟨w.heap.size + 1, 0, none⟩ = some (.slice aS nS cS) ∧ W.cell? ⟨w.heap.size + 1, 1, none⟩ = some (.slice aH nH cH) ∧ W.cell? ⟨w.heap.size + 1, 2, none⟩ = some (.slice aQ nQ cQ)) ∧ (W.cell? (ad.add (k * 4)) = some (.int .i64 kx) ∧ W.cell? ⟨(ad.add (k * 4)).block, (ad.add (k * 4)).off + 1, none⟩ = some (.int .i64 lx) ∧ W.cell? ⟨(ad.add (k * 4)).block, (ad.add (k * 4)).off + 2, none⟩ = some (.int .i64 hx) ∧ W.cell? ⟨(ad.add (k * 4)).block, (ad.add (k * 4)).off + 3, none⟩ = some (.int .i8 mx)) ∧ Below V3.heap.size V3 W → Calls Try.prog 21 #[.agg #[.slice aS nS cS, .slice aH nH cH, .slice aQ nQ cQ], .int .i64 kx] W fun e W => e = .returned (.tuple #[.int .i64 q1, .bool r1]) ∧ (W.cell? ⟨w.heap.size, 0, none⟩ = some (.int .i64 N) ∧ W.cell? ⟨w.heap.size, 1, none⟩ = some (.int .i64 S) ∧ W.cell? ⟨w.heap.size, 2, none⟩ = some (.int .i64 B) ∧ W.cell? ⟨w.heap.size, 3, none⟩ = some (.int .i64 P) ∧ W.cell? ⟨w.heap.size, 4, none⟩ = some (.int .i64 J) ∧ W.cell? ⟨w.heap.size, 5, none⟩ = some (.int .i64 L) ∧ W.cell? ⟨w.heap.size, 6, none⟩ = some (.int .i64 E) ∧ W.cell? ⟨w.heap.size, 7, none⟩ = some (.int .i64 T)) ∧ (W.cell? ⟨w.heap.size + 1, 0, none⟩ = some (.slice aS nS cS) ∧ W.cell? ⟨w.heap.size + 1, 1, none⟩ = some (.slice aH nH cH) ∧ W.cell? ⟨w.heap.size + 1, 2, none⟩ = some (.slice aQ nQ cQ)) ∧ (W.cell? (ad.add (k * 4)) = some (.int .i64 kx) ∧ W.cell? ⟨(ad.add (k * 4)).block, (ad.add (k * 4)).off + 1, none⟩ = some (.int .i64 lx) ∧ W.cell? ⟨(ad.add (k * 4)).block, (ad.add (k * 4)).off + 2, none⟩ = some (.int .i64 hx) ∧ W.cell? ⟨(ad.add (k * 4)).block, (ad.add (k * 4)).off + 3, none⟩ = some (.int .i8 mx)) ∧ Below V3.heap.size V3 W := fun W h => (hSlot.out W kx (below_then upV3 h.2.2.2)).mono (by
              rintro e w' ⟨rfl, hb⟩
              exact ⟨by rw [hr1.out, hq1.out], hS _ (below_then h.2.2.2 hb)⟩)
            have hHo : ∀ W, (W.cell? ⟨w.heap.size, 0, none⟩ = some (.int .i64 N) ∧ W.cell? ⟨w.heap.size, 1, none⟩ = some (.int .i64 S) ∧ W.cell? ⟨w.heap.size, 2, none⟩ = some (.int .i64 B) ∧ W.cell? ⟨w.heap.size, 3, none⟩ = some (.int .i64 P) ∧ W.cell? ⟨w.heap.size, 4, none⟩ = some (.int .i64 J) ∧ W.cell? ⟨w.heap.size, 5, none⟩ = some (.int .i64 L) ∧ W.cell? ⟨w.heap.size, 6, none⟩ = some (.int .i64 E) ∧ W.cell? ⟨w.heap.size, 7, none⟩ = some (.int .i64 T)) ∧ (W.cell? ⟨w.heap.size + 1, 0, none⟩ = some (.slice aS nS cS) ∧ W.cell? ⟨w.heap.size + 1, 1, none⟩ = some (.slice aH nH cH) ∧ W.cell? ⟨w.heap.size + 1, 2, none⟩ = some (.slice aQ nQ cQ)) ∧ (W.cell? (ad.add (k * 4)) = some (.int .i64 kx) ∧ W.cell? ⟨(ad.add (k * 4)).block, (ad.add (k * 4)).off + 1, none⟩ = some (.int .i64 lx) ∧ W.cell? ⟨(ad.add (k * 4)).block, (ad.add (k * 4)).off + 2, none⟩ = some (.int .i64 hx) ∧ W.cell? ⟨(ad.add (k * 4)).block, (ad.add (k * 4)).off + 3, none⟩ = some (.int .i8 mx)) ∧ Below V3.heap.size V3 W → Calls Try.prog 22 #[.agg #[.int .i64 N, .int .i64 S, .int .i64 B, .int .i64 P, .int .i64 J, .int .i64 L, .int .i64 E, .int .i64 T], .agg #[.int .i64 kx, .int .i64 lx, .int .i64 hx, .int .i8 mx]] W fun e W => e = .returned (.bool r2) ∧ (W.cell? ⟨w.heap.size, 0, none⟩ = some (.int .i64 N) ∧ W.cell? ⟨w.heap.size, 1, none⟩ = some (.int .i64 S) ∧ W.cell? ⟨w.heap.size, 2, none⟩ = some (.int .i64 B) ∧ W.cell? ⟨w.heap.size, 3, none⟩ = some (.int .i64 P) ∧ W.cell? ⟨w.heap.size, 4, none⟩ = some (.int .i64 J) ∧ W.cell? ⟨w.heap.size, 5, none⟩ = some (.int .i64 L) ∧ W.cell? ⟨w.heap.size, 6, none⟩ = some (.int .i64 E) ∧ W.cell? ⟨w.heap.size, 7, none⟩ = some (.int .i64 T)) ∧ (W.cell? ⟨w.heap.size + 1, 0, none⟩ = some (.slice aS nS cS) ∧ W.cell? ⟨w.heap.size + 1, 1, none⟩ = some (.slice aH nH cH) ∧ W.cell? ⟨w.heap.size + 1, 2, none⟩ = some (.slice aQ nQ cQ)) ∧ (W.cell? (ad.add (k * 4)) = some (.int .i64 kx) ∧ W.cell? ⟨(ad.add (k * 4)).block, (ad.add (k * 4)).off + 1, none⟩ = some (.int .i64 lx) ∧ W.cell? ⟨(ad.add (k * 4)).block, (ad.add (k * 4)).off + 2, none⟩ = some (.int .i64 hx) ∧ W.cell? ⟨(ad.add (k * 4)).block, (ad.add (k * 4)).off + 3, none⟩ = some (.int .i8 mx)) ∧ Below V3.heap.size V3 W := fun W h => (refHold_any N S B P J L E T kx lx hx mx W).mono (by
              rintro e w' ⟨rfl, hb⟩
              exact ⟨by rw [hr2.out], hS _ (below_then h.2.2.2 hb)⟩)
            have hTo : ∀ c W, (W.cell? ⟨w.heap.size, 0, none⟩ = some (.int .i64 N) ∧ W.cell? ⟨w.heap.size, 1, none⟩ = some (.int .i64 S) ∧ W.cell? ⟨w.heap.size, 2, none⟩ = some (.int .i64 B) ∧ W.cell? ⟨w.heap.size, 3, none⟩ = some (.int .i64 P) ∧ W.cell? ⟨w.heap.size, 4, none⟩ = some (.int .i64 J) ∧ W.cell? ⟨w.heap.size, 5, none⟩ = some (.int .i64 L) ∧ W.cell? ⟨w.heap.size, 6, none⟩ = some (.int .i64 E) ∧ W.cell? ⟨w.heap.size, 7, none⟩ = some (.int .i64 T)) ∧ (W.cell? ⟨w.heap.size + 1, 0, none⟩ = some (.slice aS nS cS) ∧ W.cell? ⟨w.heap.size + 1, 1, none⟩ = some (.slice aH nH cH) ∧ W.cell? ⟨w.heap.size + 1, 2, none⟩ = some (.slice aQ nQ cQ)) ∧ (W.cell? (ad.add (k * 4)) = some (.int .i64 kx) ∧ W.cell? ⟨(ad.add (k * 4)).block, (ad.add (k * 4)).off + 1, none⟩ = some (.int .i64 lx) ∧ W.cell? ⟨(ad.add (k * 4)).block, (ad.add (k * 4)).off + 2, none⟩ = some (.int .i64 hx) ∧ W.cell? ⟨(ad.add (k * 4)).block, (ad.add (k * 4)).off + 3, none⟩ = some (.int .i8 mx)) ∧ Below V3.heap.size V3 W → Calls Try.prog 23 #[.slice (some ad) k c, .int .i64 kx, .agg #[.int .i64 lx, .int .i64 hx]] W fun e W => e = .returned (.bool r3) ∧ (W.cell? ⟨w.heap.size, 0, none⟩ = some (.int .i64 N) ∧ W.cell? ⟨w.heap.size, 1, none⟩ = some (.int .i64 S) ∧ W.cell? ⟨w.heap.size, 2, none⟩ = some (.int .i64 B) ∧ W.cell? ⟨w.heap.size, 3, none⟩ = some (.int .i64 P) ∧ W.cell? ⟨w.heap.size, 4, none⟩ = some (.int .i64 J) ∧ W.cell? ⟨w.heap.size, 5, none⟩ = some (.int .i64 L) ∧ W.cell? ⟨w.heap.size, 6, none⟩ = some (.int .i64 E) ∧ W.cell? ⟨w.heap.size, 7, none⟩ = some (.int .i64 T)) ∧ (W.cell? ⟨w.heap.size + 1, 0, none⟩ = some (.slice aS nS cS) ∧ W.cell? ⟨w.heap.size + 1, 1, none⟩ = some (.slice aH nH cH) ∧ W.cell? ⟨w.heap.size + 1, 2, none⟩ = some (.slice aQ nQ cQ)) ∧ (W.cell? (ad.add (k * 4)) = some (.int .i64 kx) ∧ W.cell? ⟨(ad.add (k * 4)).block, (ad.add (k * 4)).off + 1, none⟩ = some (.int .i64 lx) ∧ W.cell? ⟨(ad.add (k * 4)).block, (ad.add (k * 4)).off + 2, none⟩ = some (.int .i64 hx) ∧ W.cell? ⟨(ad.add (k * 4)).block, (ad.add (k * 4)).off + 3, none⟩ = some (.int .i8 mx)) ∧ Below V3.heap.size V3 W := fun c W h => (refTouches_any (some ad) k c (l.take k) kx lx hx W ((HA.out W h.2.2.2).take k hk) (by unfold maxLen; omega)).mono (by
              rintro e w' ⟨rfl, hb⟩
              exact ⟨by rw [hr3.out], hS _ (below_then h.2.2.2 hb)⟩)
            have hOf : ∀ W, (W.cell? ⟨w.heap.size, 0, none⟩ = some (.int .i64 N) ∧ W.cell? ⟨w.heap.size, 1, none⟩ = some (.int .i64 S) ∧ W.cell? ⟨w.heap.size, 2, none⟩ = some (.int .i64 B) ∧ W.cell? ⟨w.heap.size, 3, none⟩ = some (.int .i64 P) ∧ W.cell? ⟨w.heap.size, 4, none⟩ = some (.int .i64 J) ∧ W.cell? ⟨w.heap.size, 5, none⟩ = some (.int .i64 L) ∧ W.cell? ⟨w.heap.size, 6, none⟩ = some (.int .i64 E) ∧ W.cell? ⟨w.heap.size, 7, none⟩ = some (.int .i64 T)) ∧ (W.cell? ⟨w.heap.size + 1, 0, none⟩ = some (.slice aS nS cS) ∧ W.cell? ⟨w.heap.size + 1, 1, none⟩ = some (.slice aH nH cH) ∧ W.cell? ⟨w.heap.size + 1, 2, none⟩ = some (.slice aQ nQ cQ)) ∧ (W.cell? (ad.add (k * 4)) = some (.int .i64 kx) ∧ W.cell? ⟨(ad.add (k * 4)).block, (ad.add (k * 4)).off + 1, none⟩ = some (.int .i64 lx) ∧ W.cell? ⟨(ad.add (k * 4)).block, (ad.add (k * 4)).off + 2, none⟩ = some (.int .i64 hx) ∧ W.cell? ⟨(ad.add (k * 4)).block, (ad.add (k * 4)).off + 3, none⟩ = some (.int .i8 mx)) ∧ Below V3.heap.size V3 W → Calls Try.prog 24 #[.agg #[.slice aS nS cS, .slice aH nH cH, .slice aQ nQ cQ], .int .i64 kx] W fun e W => (∃ A c, e = .returned (.slice A m4 c)) ∧ (W.cell? ⟨w.heap.size, 0, none⟩ = some (.int .i64 N) ∧ W.cell? ⟨w.heap.size, 1, none⟩ = some (.int .i64 S) ∧ W.cell? ⟨w.heap.size, 2, none⟩ = some (.int .i64 B) ∧ W.cell? ⟨w.heap.size, 3, none⟩ = some (.int .i64 P) ∧ W.cell? ⟨w.heap.size, 4, none⟩ = some (.int .i64 J) ∧ W.cell? ⟨w.heap.size, 5, none⟩ = some (.int .i64 L) ∧ W.cell? ⟨w.heap.size, 6, none⟩ = some (.int .i64 E) ∧ W.cell? ⟨w.heap.size, 7, none⟩ = some (.int .i64 T)) ∧ (W.cell? ⟨w.heap.size + 1, 0, none⟩ = some (.slice aS nS cS) ∧ W.cell? ⟨w.heap.size + 1, 1, none⟩ = some (.slice aH nH cH) ∧ W.cell? ⟨w.heap.size + 1, 2, none⟩ = some (.slice aQ nQ cQ)) ∧ (W.cell? (ad.add (k * 4)) = some (.int .i64 kx) ∧ W.cell? ⟨(ad.add (k * 4)).block, (ad.add (k * 4)).off + 1, none⟩ = some (.int .i64 lx) ∧ W.cell? ⟨(ad.add (k * 4)).block, (ad.add (k * 4)).off + 2, none⟩ = some (.int .i64 hx) ∧ W.cell? ⟨(ad.add (k * 4)).block, (ad.add (k * 4)).off + 3, none⟩ = some (.int .i8 mx)) ∧ Below V3.heap.size V3 W := fun W h => (hAll.out W kx (below_then upV3 h.2.2.2)).mono (by
              rintro e w' ⟨v, rfl, ⟨A, c, rfl, _⟩, hb⟩
              exact ⟨⟨A, c, by rw [hm4.out]⟩, hS _ (below_then h.2.2.2 hb)⟩)
            have hD := hS _ hb.drew
            have hkc : (k : Int) ≤ (c2 : Int) := by omega
            have hk0 : (0 : Int) ≤ (k : Int) := by omega
            have hmk : m4 ≤ 2199023255552 := by rw [← hm4.out]; have := ofKey_len l kx l.length; rw [List.take_length, HLen.out] at this; omega
            clear hxx hkl c0 c1' c2' c3' hAd
            go_upto_region 7 with fail
            go_region_held3 (fun W => (W.cell? ⟨w.heap.size, 0, none⟩ = some (.int .i64 N) ∧ W.cell? ⟨w.heap.size, 1, none⟩ = some (.int .i64 S) ∧ W.cell? ⟨w.heap.size, 2, none⟩ = some (.int .i64 B) ∧ W.cell? ⟨w.heap.size, 3, none⟩ = some (.int .i64 P) ∧ W.cell? ⟨w.heap.size, 4, none⟩ = some (.int .i64 J) ∧ W.cell? ⟨w.heap.size, 5, none⟩ = some (.int .i64 L) ∧ W.cell? ⟨w.heap.size, 6, none⟩ = some (.int .i64 E) ∧ W.cell? ⟨w.heap.size, 7, none⟩ = some (.int .i64 T)) ∧ (W.cell? ⟨w.heap.size + 1, 0, none⟩ = some (.slice aS nS cS) ∧ W.cell? ⟨w.heap.size + 1, 1, none⟩ = some (.slice aH nH cH) ∧ W.cell? ⟨w.heap.size + 1, 2, none⟩ = some (.slice aQ nQ cQ)) ∧ (W.cell? (ad.add (k * 4)) = some (.int .i64 kx) ∧ W.cell? ⟨(ad.add (k * 4)).block, (ad.add (k * 4)).off + 1, none⟩ = some (.int .i64 lx) ∧ W.cell? ⟨(ad.add (k * 4)).block, (ad.add (k * 4)).off + 2, none⟩ = some (.int .i64 hx) ∧ W.cell? ⟨(ad.add (k * 4)).block, (ad.add (k * 4)).off + 3, none⟩ = some (.int .i8 mx)) ∧ Below V3.heap.size V3 W) (first | assumption)
              ((go_at_call 21; (with_reducible refine (hSl _ ?_).mono ?_); assumption; rintro e W1 ⟨rfl, hN⟩))
            clear hSl hD
            have hb3 := hN.2.2.2
            clear hN
            rcases r1 with _ | _
            · have HV : Hid (mayTB S B t = false) := may_one HE.out HX.out.1 HX.out.2 (by unfold okH; rw [show (⟨kx, ⟨lx, hx⟩, mx⟩ : HoldM).key = kx from rfl, hr1.out]; simp)
              clear HO
              go_upto_region 8 with fail
              refine wp_region_held_drew (S := (fun W => (W.cell? ⟨w.heap.size, 0, none⟩ = some (.int .i64 N) ∧ W.cell? ⟨w.heap.size, 1, none⟩ = some (.int .i64 S) ∧ W.cell? ⟨w.heap.size, 2, none⟩ = some (.int .i64 B) ∧ W.cell? ⟨w.heap.size, 3, none⟩ = some (.int .i64 P) ∧ W.cell? ⟨w.heap.size, 4, none⟩ = some (.int .i64 J) ∧ W.cell? ⟨w.heap.size, 5, none⟩ = some (.int .i64 L) ∧ W.cell? ⟨w.heap.size, 6, none⟩ = some (.int .i64 E) ∧ W.cell? ⟨w.heap.size, 7, none⟩ = some (.int .i64 T)) ∧ (W.cell? ⟨w.heap.size + 1, 0, none⟩ = some (.slice aS nS cS) ∧ W.cell? ⟨w.heap.size + 1, 1, none⟩ = some (.slice aH nH cH) ∧ W.cell? ⟨w.heap.size + 1, 2, none⟩ = some (.slice aQ nQ cQ)) ∧ (W.cell? (ad.add (k * 4)) = some (.int .i64 kx) ∧ W.cell? ⟨(ad.add (k * 4)).block, (ad.add (k * 4)).off + 1, none⟩ = some (.int .i64 lx) ∧ W.cell? ⟨(ad.add (k * 4)).block, (ad.add (k * 4)).off + 2, none⟩ = some (.int .i64 hx) ∧ W.cell? ⟨(ad.add (k * 4)).block, (ad.add (k * 4)).off + 3, none⟩ = some (.int .i8 mx)) ∧ Below V3.heap.size V3 W)) (by kernel_rfl) ?_ (fun hHeld => ?_)
              focus (exact hS _ hb3.drew)
              refine wpAnyH_take (i := 0) (oi := ⟨some 49, _, _, _, _, _⟩) (v := ?_) rfl (by kernel_rfl) (by kernel_rfl) (by kernel_rfl) (fun _ _ _ h => h) (Or.inl ⟨by rfl, ?_⟩) (by assumption) ?_
              rotate_left
              focus (intro wq hSq; (try dsimp only at hSq); go_simp; try with_reducible rfl)
              try simp only [Act.put, List.setIfInBounds_toArray, List.set_cons_zero, List.set_cons_succ]
              refine wpAnyH_take (i := 1) (oi := ⟨some 50, _, _, _, _, _⟩) (v := ?_) rfl (by kernel_rfl) (by kernel_rfl) (by kernel_rfl) (fun _ _ _ h => h) (Or.inl ⟨by rfl, ?_⟩) (by assumption) ?_
              rotate_left
              focus (intro wq hSq; (try dsimp only at hSq); go_simp; try with_reducible rfl)
              try simp only [Act.put, List.setIfInBounds_toArray, List.set_cons_zero, List.set_cons_succ]
              refine wpAnyH_take (i := 2) (oi := ⟨some 51, _, _, _, _, _⟩) (v := ?_) rfl (by kernel_rfl) (by kernel_rfl) (by kernel_rfl) (fun _ _ _ h => h) (Or.inl ⟨by rfl, ?_⟩) (by assumption) ?_
              rotate_left
              focus (intro wq hSq; (try dsimp only at hSq); go_simp; try with_reducible rfl)
              try simp only [Act.put, List.setIfInBounds_toArray, List.set_cons_zero, List.set_cons_succ]
              refine wpAnyH_take (i := 3) (oi := ⟨some 52, _, _, _, _, _⟩) (v := undef) rfl (by kernel_rfl) (by kernel_rfl) (by kernel_rfl) (fun _ _ _ h => h) (Or.inr ⟨by rfl, rfl⟩) (by assumption) ?_
              try simp only [Act.put, List.setIfInBounds_toArray, List.set_cons_zero, List.set_cons_succ]
              refine wpAnyH_take (i := 4) (oi := ⟨some 53, _, _, _, _, _⟩) (v := undef) rfl (by kernel_rfl) (by kernel_rfl) (by kernel_rfl) (fun _ _ _ h => h) (Or.inr ⟨by rfl, rfl⟩) (by assumption) ?_
              try simp only [Act.put, List.setIfInBounds_toArray, List.set_cons_zero, List.set_cons_succ]
              refine wpAnyH_take (i := 5) (oi := ⟨some 54, _, _, _, _, _⟩) (v := undef) rfl (by kernel_rfl) (by kernel_rfl) (by kernel_rfl) (fun _ _ _ h => h) (Or.inr ⟨by rfl, rfl⟩) (by assumption) ?_
              try simp only [Act.put, List.setIfInBounds_toArray, List.set_cons_zero, List.set_cons_succ]
              refine wpAnyH_take (i := 6) (oi := ⟨some 55, _, _, _, _, _⟩) (v := undef) rfl (by kernel_rfl) (by kernel_rfl) (by kernel_rfl) (fun _ _ _ h => h) (Or.inr ⟨by rfl, rfl⟩) (by assumption) ?_
              try simp only [Act.put, List.setIfInBounds_toArray, List.set_cons_zero, List.set_cons_succ]
              refine wpAnyH_take (i := 7) (oi := ⟨some 56, _, _, _, _, _⟩) (v := undef) rfl (by kernel_rfl) (by kernel_rfl) (by kernel_rfl) (fun _ _ _ h => h) (Or.inr ⟨by rfl, rfl⟩) (by assumption) ?_
              try simp only [Act.put, List.setIfInBounds_toArray, List.set_cons_zero, List.set_cons_succ]
              refine wpAnyH_take (i := 8) (oi := ⟨some 57, _, _, _, _, _⟩) (v := undef) rfl (by kernel_rfl) (by kernel_rfl) (by kernel_rfl) (fun _ _ _ h => h) (Or.inr ⟨by rfl, rfl⟩) (by assumption) ?_
              try simp only [Act.put, List.setIfInBounds_toArray, List.set_cons_zero, List.set_cons_succ]
              refine wpAnyH_take (i := 9) (oi := ⟨some 58, _, _, _, _, _⟩) (v := undef) rfl (by kernel_rfl) (by kernel_rfl) (by kernel_rfl) (fun _ _ _ h => h) (Or.inr ⟨by rfl, rfl⟩) (by assumption) ?_
              try simp only [Act.put, List.setIfInBounds_toArray, List.set_cons_zero, List.set_cons_succ]
              refine wpAnyH_take (i := 10) (oi := ⟨some 59, _, _, _, _, _⟩) (v := ?_) rfl (by kernel_rfl) (by kernel_rfl) (by kernel_rfl) (fun _ _ _ h => h) (Or.inl ⟨by rfl, ?_⟩) (by assumption) ?_
              rotate_left
              focus (intro wq hSq; (try dsimp only at hSq); go_simp; try with_reducible rfl)
              try simp only [Act.put, List.setIfInBounds_toArray, List.set_cons_zero, List.set_cons_succ]
              refine wpAnyH_take (i := 11) (oi := ⟨some 60, _, _, _, _, _⟩) (v := ?_) rfl (by kernel_rfl) (by kernel_rfl) (by kernel_rfl) (fun _ _ _ h => h) (Or.inl ⟨by rfl, ?_⟩) (by assumption) ?_
              rotate_left
              focus (intro wq hSq; (try dsimp only at hSq); go_simp; try with_reducible rfl)
              try simp only [Act.put, List.setIfInBounds_toArray, List.set_cons_zero, List.set_cons_succ]
              refine wpAnyH_take (i := 12) (oi := ⟨some 61, _, _, _, _, _⟩) (v := undef) rfl (by kernel_rfl) (by kernel_rfl) (by kernel_rfl) (fun _ _ _ h => h) (Or.inr ⟨by rfl, rfl⟩) (by assumption) ?_
              try simp only [Act.put, List.setIfInBounds_toArray, List.set_cons_zero, List.set_cons_succ]
              refine wpAnyH_take (i := 13) (oi := ⟨some 62, _, _, _, _, _⟩) (v := undef) rfl (by kernel_rfl) (by kernel_rfl) (by kernel_rfl) (fun _ _ _ h => h) (Or.inr ⟨by rfl, rfl⟩) (by assumption) ?_
              try simp only [Act.put, List.setIfInBounds_toArray, List.set_cons_zero, List.set_cons_succ]
              refine wpAnyH_take (i := 14) (oi := ⟨some 63, _, _, _, _, _⟩) (v := undef) rfl (by kernel_rfl) (by kernel_rfl) (by kernel_rfl) (fun _ _ _ h => h) (Or.inr ⟨by rfl, rfl⟩) (by assumption) ?_
              try simp only [Act.put, List.setIfInBounds_toArray, List.set_cons_zero, List.set_cons_succ]
              refine wpAnyH_take (i := 15) (oi := ⟨some 64, _, _, _, _, _⟩) (v := undef) rfl (by kernel_rfl) (by kernel_rfl) (by kernel_rfl) (fun _ _ _ h => h) (Or.inr ⟨by rfl, rfl⟩) (by assumption) ?_
              try simp only [Act.put, List.setIfInBounds_toArray, List.set_cons_zero, List.set_cons_succ]
              refine wpAnyH_take (i := 16) (oi := ⟨some 65, _, _, _, _, _⟩) (v := undef) rfl (by kernel_rfl) (by kernel_rfl) (by kernel_rfl) (fun _ _ _ h => h) (Or.inr ⟨by rfl, rfl⟩) (by assumption) ?_
              try simp only [Act.put, List.setIfInBounds_toArray, List.set_cons_zero, List.set_cons_succ]
              refine wpAnyH_take (i := 17) (oi := ⟨some 66, _, _, _, _, _⟩) (v := undef) rfl (by kernel_rfl) (by kernel_rfl) (by kernel_rfl) (fun _ _ _ h => h) (Or.inr ⟨by rfl, rfl⟩) (by assumption) ?_
              try simp only [Act.put, List.setIfInBounds_toArray, List.set_cons_zero, List.set_cons_succ]
              refine wpAnyH_take (i := 18) (oi := ⟨some 67, _, _, _, _, _⟩) (v := undef) rfl (by kernel_rfl) (by kernel_rfl) (by kernel_rfl) (fun _ _ _ h => h) (Or.inr ⟨by rfl, rfl⟩) (by assumption) ?_
              try simp only [Act.put, List.setIfInBounds_toArray, List.set_cons_zero, List.set_cons_succ]
              refine wpAnyH_take (i := 19) (oi := ⟨some 68, _, _, _, _, _⟩) (v := undef) rfl (by kernel_rfl) (by kernel_rfl) (by kernel_rfl) (fun _ _ _ h => h) (Or.inr ⟨by rfl, rfl⟩) (by assumption) ?_
              try simp only [Act.put, List.setIfInBounds_toArray, List.set_cons_zero, List.set_cons_succ]
              refine wpAnyH_take (i := 20) (oi := ⟨some 69, _, _, _, _, _⟩) (v := undef) rfl (by kernel_rfl) (by kernel_rfl) (by kernel_rfl) (fun _ _ _ h => h) (Or.inr ⟨by rfl, rfl⟩) (by assumption) ?_
              try simp only [Act.put, List.setIfInBounds_toArray, List.set_cons_zero, List.set_cons_succ]
              refine wpAnyH_take (i := 21) (oi := ⟨some 70, _, _, _, _, _⟩) (v := undef) rfl (by kernel_rfl) (by kernel_rfl) (by kernel_rfl) (fun _ _ _ h => h) (Or.inr ⟨by rfl, rfl⟩) (by assumption) ?_
              try simp only [Act.put, List.setIfInBounds_toArray, List.set_cons_zero, List.set_cons_succ]
              refine wpAnyH_take (i := 22) (oi := ⟨some 71, _, _, _, _, _⟩) (v := undef) rfl (by kernel_rfl) (by kernel_rfl) (by kernel_rfl) (fun _ _ _ h => h) (Or.inr ⟨by rfl, rfl⟩) (by assumption) ?_
              try simp only [Act.put, List.setIfInBounds_toArray, List.set_cons_zero, List.set_cons_succ]
              refine wpAnyH_take (i := 23) (oi := ⟨some 72, _, _, _, _, _⟩) (v := undef) rfl (by kernel_rfl) (by kernel_rfl) (by kernel_rfl) (fun _ _ _ h => h) (Or.inr ⟨by rfl, rfl⟩) (by assumption) ?_
              try simp only [Act.put, List.setIfInBounds_toArray, List.set_cons_zero, List.set_cons_succ]
              refine wpAnyH_take (i := 24) (oi := ⟨some 73, _, _, _, _, _⟩) (v := undef) rfl (by kernel_rfl) (by kernel_rfl) (by kernel_rfl) (fun _ _ _ h => h) (Or.inr ⟨by rfl, rfl⟩) (by assumption) ?_
              try simp only [Act.put, List.setIfInBounds_toArray, List.set_cons_zero, List.set_cons_succ]
              refine wpAnyH_take (i := 25) (oi := ⟨some 74, _, _, _, _, _⟩) (v := undef) rfl (by kernel_rfl) (by kernel_rfl) (by kernel_rfl) (fun _ _ _ h => h) (Or.inr ⟨by rfl, rfl⟩) (by assumption) ?_
              try simp only [Act.put, List.setIfInBounds_toArray, List.set_cons_zero, List.set_cons_succ]
              refine wpAnyH_take (i := 26) (oi := ⟨some 75, _, _, _, _, _⟩) (v := ?_) rfl (by kernel_rfl) (by kernel_rfl) (by kernel_rfl) (fun _ _ _ h => h) (Or.inl ⟨by rfl, ?_⟩) (by assumption) ?_
              rotate_left
              focus (intro wq hSq; (try dsimp only at hSq); go_simp; try with_reducible rfl)
              try simp only [Act.put, List.setIfInBounds_toArray, List.set_cons_zero, List.set_cons_succ]
              refine wpAnyH_take (i := 27) (oi := ⟨some 76, _, _, _, _, _⟩) (v := ?_) rfl (by kernel_rfl) (by kernel_rfl) (by kernel_rfl) (fun _ _ _ h => h) (Or.inl ⟨by rfl, ?_⟩) (by assumption) ?_
              rotate_left
              focus (intro wq hSq; (try dsimp only at hSq); go_simp; try with_reducible rfl)
              try simp only [Act.put, List.setIfInBounds_toArray, List.set_cons_zero, List.set_cons_succ]
              refine wpAnyH_take (i := 28) (oi := ⟨some 77, _, _, _, _, _⟩) (v := undef) rfl (by kernel_rfl) (by kernel_rfl) (by kernel_rfl) (fun _ _ _ h => h) (Or.inr ⟨by rfl, rfl⟩) (by assumption) ?_
              try simp only [Act.put, List.setIfInBounds_toArray, List.set_cons_zero, List.set_cons_succ]
              refine wpAnyH_take (i := 29) (oi := ⟨some 78, _, _, _, _, _⟩) (v := undef) rfl (by kernel_rfl) (by kernel_rfl) (by kernel_rfl) (fun _ _ _ h => h) (Or.inr ⟨by rfl, rfl⟩) (by assumption) ?_
              try simp only [Act.put, List.setIfInBounds_toArray, List.set_cons_zero, List.set_cons_succ]
              refine wpAnyH_take (i := 30) (oi := ⟨some 79, _, _, _, _, _⟩) (v := undef) rfl (by kernel_rfl) (by kernel_rfl) (by kernel_rfl) (fun _ _ _ h => h) (Or.inr ⟨by rfl, rfl⟩) (by assumption) ?_
              try simp only [Act.put, List.setIfInBounds_toArray, List.set_cons_zero, List.set_cons_succ]
              refine wpAnyH_take (i := 31) (oi := ⟨some 80, _, _, _, _, _⟩) (v := undef) rfl (by kernel_rfl) (by kernel_rfl) (by kernel_rfl) (fun _ _ _ h => h) (Or.inr ⟨by rfl, rfl⟩) (by assumption) ?_
              try simp only [Act.put, List.setIfInBounds_toArray, List.set_cons_zero, List.set_cons_succ]
              refine wpAnyH_take (i := 32) (oi := ⟨some 81, _, _, _, _, _⟩) (v := undef) rfl (by kernel_rfl) (by kernel_rfl) (by kernel_rfl) (fun _ _ _ h => h) (Or.inr ⟨by rfl, rfl⟩) (by assumption) ?_
              try simp only [Act.put, List.setIfInBounds_toArray, List.set_cons_zero, List.set_cons_succ]
              refine wpAnyH_take (i := 33) (oi := ⟨some 82, _, _, _, _, _⟩) (v := undef) rfl (by kernel_rfl) (by kernel_rfl) (by kernel_rfl) (fun _ _ _ h => h) (Or.inr ⟨by rfl, rfl⟩) (by assumption) ?_
              try simp only [Act.put, List.setIfInBounds_toArray, List.set_cons_zero, List.set_cons_succ]
              refine wpAnyH_take (i := 34) (oi := ⟨some 83, _, _, _, _, _⟩) (v := undef) rfl (by kernel_rfl) (by kernel_rfl) (by kernel_rfl) (fun _ _ _ h => h) (Or.inr ⟨by rfl, rfl⟩) (by assumption) ?_
              try simp only [Act.put, List.setIfInBounds_toArray, List.set_cons_zero, List.set_cons_succ]
              refine wpAnyH_take (i := 35) (oi := ⟨some 84, _, _, _, _, _⟩) (v := undef) rfl (by kernel_rfl) (by kernel_rfl) (by kernel_rfl) (fun _ _ _ h => h) (Or.inr ⟨by rfl, rfl⟩) (by assumption) ?_
              try simp only [Act.put, List.setIfInBounds_toArray, List.set_cons_zero, List.set_cons_succ]
              refine wpAnyH_take (i := 36) (oi := ⟨some 85, _, _, _, _, _⟩) (v := undef) rfl (by kernel_rfl) (by kernel_rfl) (by kernel_rfl) (fun _ _ _ h => h) (Or.inr ⟨by rfl, rfl⟩) (by assumption) ?_
              try simp only [Act.put, List.setIfInBounds_toArray, List.set_cons_zero, List.set_cons_succ]
              refine wpAnyH_take (i := 37) (oi := ⟨some 86, _, _, _, _, _⟩) (v := ?_) rfl (by kernel_rfl) (by kernel_rfl) (by kernel_rfl) (fun _ _ _ h => h) (Or.inl ⟨by rfl, ?_⟩) (by assumption) ?_
              rotate_left
              focus (intro wq hSq; (try dsimp only at hSq); go_simp; try with_reducible rfl)
              try simp only [Act.put, List.setIfInBounds_toArray, List.set_cons_zero, List.set_cons_succ]
              refine wpAnyH_done (by kernel_rfl) ?_ _
              go_wp2_with fail
              go_ret
              exact ⟨by rw [HV.out] <;> rfl, below_then hbw (below_then upV3 hHeld.2.2.2)⟩
            · rcases r2 with _ | _
              · have HV : Hid (mayTB S B t = false) := may_one HE.out HX.out.1 HX.out.2 (by unfold okH; rw [hr2.out]; simp)
                clear HO
                go_upto_region 8 with fail
                refine wp_region_held_drew (S := (fun W => (W.cell? ⟨w.heap.size, 0, none⟩ = some (.int .i64 N) ∧ W.cell? ⟨w.heap.size, 1, none⟩ = some (.int .i64 S) ∧ W.cell? ⟨w.heap.size, 2, none⟩ = some (.int .i64 B) ∧ W.cell? ⟨w.heap.size, 3, none⟩ = some (.int .i64 P) ∧ W.cell? ⟨w.heap.size, 4, none⟩ = some (.int .i64 J) ∧ W.cell? ⟨w.heap.size, 5, none⟩ = some (.int .i64 L) ∧ W.cell? ⟨w.heap.size, 6, none⟩ = some (.int .i64 E) ∧ W.cell? ⟨w.heap.size, 7, none⟩ = some (.int .i64 T)) ∧ (W.cell? ⟨w.heap.size + 1, 0, none⟩ = some (.slice aS nS cS) ∧ W.cell? ⟨w.heap.size + 1, 1, none⟩ = some (.slice aH nH cH) ∧ W.cell? ⟨w.heap.size + 1, 2, none⟩ = some (.slice aQ nQ cQ)) ∧ (W.cell? (ad.add (k * 4)) = some (.int .i64 kx) ∧ W.cell? ⟨(ad.add (k * 4)).block, (ad.add (k * 4)).off + 1, none⟩ = some (.int .i64 lx) ∧ W.cell? ⟨(ad.add (k * 4)).block, (ad.add (k * 4)).off + 2, none⟩ = some (.int .i64 hx) ∧ W.cell? ⟨(ad.add (k * 4)).block, (ad.add (k * 4)).off + 3, none⟩ = some (.int .i8 mx)) ∧ Below V3.heap.size V3 W)) (by kernel_rfl) ?_ (fun hHeld => ?_)
                focus (exact hS _ hb3.drew)
                refine wpAnyH_take (i := 0) (oi := ⟨some 49, _, _, _, _, _⟩) (v := ?_) rfl (by kernel_rfl) (by kernel_rfl) (by kernel_rfl) (fun _ _ _ h => h) (Or.inl ⟨by rfl, ?_⟩) (by assumption) ?_
                rotate_left
                focus (intro wq hSq; (try dsimp only at hSq); go_simp; try with_reducible rfl)
                try simp only [Act.put, List.setIfInBounds_toArray, List.set_cons_zero, List.set_cons_succ]
                refine wpAnyH_take (i := 1) (oi := ⟨some 50, _, _, _, _, _⟩) (v := ?_) rfl (by kernel_rfl) (by kernel_rfl) (by kernel_rfl) (fun _ _ _ h => h) (Or.inl ⟨by rfl, ?_⟩) (by assumption) ?_
                rotate_left
                focus (intro wq hSq; (try dsimp only at hSq); go_simp; try with_reducible rfl)
                try simp only [Act.put, List.setIfInBounds_toArray, List.set_cons_zero, List.set_cons_succ]
                refine wpAnyH_take (i := 2) (oi := ⟨some 51, _, _, _, _, _⟩) (v := ?_) rfl (by kernel_rfl) (by kernel_rfl) (by kernel_rfl) (fun _ _ _ h => h) (Or.inl ⟨by rfl, ?_⟩) (by assumption) ?_
                rotate_left
                focus (intro wq hSq; (try dsimp only at hSq); go_simp; try with_reducible rfl)
                try simp only [Act.put, List.setIfInBounds_toArray, List.set_cons_zero, List.set_cons_succ]
                refine wpAnyH_take (i := 3) (oi := ⟨some 52, _, _, _, _, _⟩) (v := ?_) rfl (by kernel_rfl) (by kernel_rfl) (by kernel_rfl) (fun _ _ _ h => h) (Or.inl ⟨by rfl, ?_⟩) (by assumption) ?_
                rotate_left
                focus (intro wq hSq; (try dsimp only at hSq); go_simp; try with_reducible rfl)
                try simp only [Act.put, List.setIfInBounds_toArray, List.set_cons_zero, List.set_cons_succ]
                refine wpAnyH_take (i := 4) (oi := ⟨some 53, _, _, _, _, _⟩) (v := ?_) rfl (by kernel_rfl) (by kernel_rfl) (by kernel_rfl) (fun _ _ _ h => h) (Or.inl ⟨by rfl, ?_⟩) (by assumption) ?_
                rotate_left
                focus (intro wq hSq; (try dsimp only at hSq); go_simp; try with_reducible rfl)
                try simp only [Act.put, List.setIfInBounds_toArray, List.set_cons_zero, List.set_cons_succ]
                refine wpAnyH_take (i := 5) (oi := ⟨some 54, _, _, _, _, _⟩) (v := ?_) rfl (by kernel_rfl) (by kernel_rfl) (by kernel_rfl) (fun _ _ _ h => h) (Or.inl ⟨by rfl, ?_⟩) (by assumption) ?_
                rotate_left
                focus (intro wq hSq; (try dsimp only at hSq); go_simp; try with_reducible rfl)
                try simp only [Act.put, List.setIfInBounds_toArray, List.set_cons_zero, List.set_cons_succ]
                refine wpAnyH_take (i := 6) (oi := ⟨some 55, _, _, _, _, _⟩) (v := ?_) rfl (by kernel_rfl) (by kernel_rfl) (by kernel_rfl) (fun _ _ _ h => h) (Or.inl ⟨by rfl, ?_⟩) (by assumption) ?_
                rotate_left
                focus (intro wq hSq; (try dsimp only at hSq); go_simp; try with_reducible rfl)
                try simp only [Act.put, List.setIfInBounds_toArray, List.set_cons_zero, List.set_cons_succ]
                refine wpAnyH_take (i := 7) (oi := ⟨some 56, _, _, _, _, _⟩) (v := ?_) rfl (by kernel_rfl) (by kernel_rfl) (by kernel_rfl) (fun _ _ _ h => h) (Or.inl ⟨by rfl, ?_⟩) (by assumption) ?_
                rotate_left
                focus (intro wq hSq; (try dsimp only at hSq); go_simp; try with_reducible rfl)
                try simp only [Act.put, List.setIfInBounds_toArray, List.set_cons_zero, List.set_cons_succ]
                refine wpAnyH_ready (rs := [8]) (by kernel_rfl) (by simp) ?_
                refine AllReadyH.cons (o := ⟨some 57, _, _, _, _, _⟩) rfl (fun K hK => ?_) AllReadyH.nil
                go_simp
                go_at_call 22
                (with_reducible refine (hHo _ ?_).mono ?_)
                assumption
                rintro e W2 ⟨rfl, hN⟩
                go_wp2_with fail
                refine hK.out _ _ ?_ (fun hHeld => ?_)
                focus (exact hN)
                clear hK K
                try simp only [Act.put, List.setIfInBounds_toArray, List.set_cons_zero, List.set_cons_succ]
                refine wpAnyH_take (i := 9) (oi := ⟨some 58, _, _, _, _, _⟩) (v := ?_) rfl (by kernel_rfl) (by kernel_rfl) (by kernel_rfl) (fun _ _ _ h => h) (Or.inl ⟨by rfl, ?_⟩) (by assumption) ?_
                rotate_left
                focus (intro wq hSq; (try dsimp only at hSq); go_simp; try with_reducible rfl)
                try simp only [Act.put, List.setIfInBounds_toArray, List.set_cons_zero, List.set_cons_succ]
                refine wpAnyH_take (i := 10) (oi := ⟨some 59, _, _, _, _, _⟩) (v := ?_) rfl (by kernel_rfl) (by kernel_rfl) (by kernel_rfl) (fun _ _ _ h => h) (Or.inl ⟨by rfl, ?_⟩) (by assumption) ?_
                rotate_left
                focus (intro wq hSq; (try dsimp only at hSq); go_simp; try with_reducible rfl)
                try simp only [Act.put, List.setIfInBounds_toArray, List.set_cons_zero, List.set_cons_succ]
                refine wpAnyH_take (i := 11) (oi := ⟨some 60, _, _, _, _, _⟩) (v := ?_) rfl (by kernel_rfl) (by kernel_rfl) (by kernel_rfl) (fun _ _ _ h => h) (Or.inl ⟨by rfl, ?_⟩) (by assumption) ?_
                rotate_left
                focus (intro wq hSq; (try dsimp only at hSq); go_simp; try with_reducible rfl)
                try simp only [Act.put, List.setIfInBounds_toArray, List.set_cons_zero, List.set_cons_succ]
                refine wpAnyH_take (i := 12) (oi := ⟨some 61, _, _, _, _, _⟩) (v := undef) rfl (by kernel_rfl) (by kernel_rfl) (by kernel_rfl) (fun _ _ _ h => h) (Or.inr ⟨by rfl, rfl⟩) (by assumption) ?_
                try simp only [Act.put, List.setIfInBounds_toArray, List.set_cons_zero, List.set_cons_succ]
                refine wpAnyH_take (i := 13) (oi := ⟨some 62, _, _, _, _, _⟩) (v := undef) rfl (by kernel_rfl) (by kernel_rfl) (by kernel_rfl) (fun _ _ _ h => h) (Or.inr ⟨by rfl, rfl⟩) (by assumption) ?_
                try simp only [Act.put, List.setIfInBounds_toArray, List.set_cons_zero, List.set_cons_succ]
                refine wpAnyH_take (i := 14) (oi := ⟨some 63, _, _, _, _, _⟩) (v := undef) rfl (by kernel_rfl) (by kernel_rfl) (by kernel_rfl) (fun _ _ _ h => h) (Or.inr ⟨by rfl, rfl⟩) (by assumption) ?_
                try simp only [Act.put, List.setIfInBounds_toArray, List.set_cons_zero, List.set_cons_succ]
                refine wpAnyH_take (i := 15) (oi := ⟨some 64, _, _, _, _, _⟩) (v := undef) rfl (by kernel_rfl) (by kernel_rfl) (by kernel_rfl) (fun _ _ _ h => h) (Or.inr ⟨by rfl, rfl⟩) (by assumption) ?_
                try simp only [Act.put, List.setIfInBounds_toArray, List.set_cons_zero, List.set_cons_succ]
                refine wpAnyH_take (i := 16) (oi := ⟨some 65, _, _, _, _, _⟩) (v := undef) rfl (by kernel_rfl) (by kernel_rfl) (by kernel_rfl) (fun _ _ _ h => h) (Or.inr ⟨by rfl, rfl⟩) (by assumption) ?_
                try simp only [Act.put, List.setIfInBounds_toArray, List.set_cons_zero, List.set_cons_succ]
                refine wpAnyH_take (i := 17) (oi := ⟨some 66, _, _, _, _, _⟩) (v := undef) rfl (by kernel_rfl) (by kernel_rfl) (by kernel_rfl) (fun _ _ _ h => h) (Or.inr ⟨by rfl, rfl⟩) (by assumption) ?_
                try simp only [Act.put, List.setIfInBounds_toArray, List.set_cons_zero, List.set_cons_succ]
                refine wpAnyH_take (i := 18) (oi := ⟨some 67, _, _, _, _, _⟩) (v := undef) rfl (by kernel_rfl) (by kernel_rfl) (by kernel_rfl) (fun _ _ _ h => h) (Or.inr ⟨by rfl, rfl⟩) (by assumption) ?_
                try simp only [Act.put, List.setIfInBounds_toArray, List.set_cons_zero, List.set_cons_succ]
                refine wpAnyH_take (i := 19) (oi := ⟨some 68, _, _, _, _, _⟩) (v := undef) rfl (by kernel_rfl) (by kernel_rfl) (by kernel_rfl) (fun _ _ _ h => h) (Or.inr ⟨by rfl, rfl⟩) (by assumption) ?_
                try simp only [Act.put, List.setIfInBounds_toArray, List.set_cons_zero, List.set_cons_succ]
                refine wpAnyH_take (i := 20) (oi := ⟨some 69, _, _, _, _, _⟩) (v := undef) rfl (by kernel_rfl) (by kernel_rfl) (by kernel_rfl) (fun _ _ _ h => h) (Or.inr ⟨by rfl, rfl⟩) (by assumption) ?_
                try simp only [Act.put, List.setIfInBounds_toArray, List.set_cons_zero, List.set_cons_succ]
                refine wpAnyH_take (i := 21) (oi := ⟨some 70, _, _, _, _, _⟩) (v := undef) rfl (by kernel_rfl) (by kernel_rfl) (by kernel_rfl) (fun _ _ _ h => h) (Or.inr ⟨by rfl, rfl⟩) (by assumption) ?_
                try simp only [Act.put, List.setIfInBounds_toArray, List.set_cons_zero, List.set_cons_succ]
                refine wpAnyH_take (i := 22) (oi := ⟨some 71, _, _, _, _, _⟩) (v := undef) rfl (by kernel_rfl) (by kernel_rfl) (by kernel_rfl) (fun _ _ _ h => h) (Or.inr ⟨by rfl, rfl⟩) (by assumption) ?_
                try simp only [Act.put, List.setIfInBounds_toArray, List.set_cons_zero, List.set_cons_succ]
                refine wpAnyH_take (i := 23) (oi := ⟨some 72, _, _, _, _, _⟩) (v := undef) rfl (by kernel_rfl) (by kernel_rfl) (by kernel_rfl) (fun _ _ _ h => h) (Or.inr ⟨by rfl, rfl⟩) (by assumption) ?_
                try simp only [Act.put, List.setIfInBounds_toArray, List.set_cons_zero, List.set_cons_succ]
                refine wpAnyH_take (i := 24) (oi := ⟨some 73, _, _, _, _, _⟩) (v := undef) rfl (by kernel_rfl) (by kernel_rfl) (by kernel_rfl) (fun _ _ _ h => h) (Or.inr ⟨by rfl, rfl⟩) (by assumption) ?_
                try simp only [Act.put, List.setIfInBounds_toArray, List.set_cons_zero, List.set_cons_succ]
                refine wpAnyH_take (i := 25) (oi := ⟨some 74, _, _, _, _, _⟩) (v := undef) rfl (by kernel_rfl) (by kernel_rfl) (by kernel_rfl) (fun _ _ _ h => h) (Or.inr ⟨by rfl, rfl⟩) (by assumption) ?_
                try simp only [Act.put, List.setIfInBounds_toArray, List.set_cons_zero, List.set_cons_succ]
                refine wpAnyH_take (i := 26) (oi := ⟨some 75, _, _, _, _, _⟩) (v := ?_) rfl (by kernel_rfl) (by kernel_rfl) (by kernel_rfl) (fun _ _ _ h => h) (Or.inl ⟨by rfl, ?_⟩) (by assumption) ?_
                rotate_left
                focus (intro wq hSq; (try dsimp only at hSq); go_simp; try with_reducible rfl)
                try simp only [Act.put, List.setIfInBounds_toArray, List.set_cons_zero, List.set_cons_succ]
                refine wpAnyH_take (i := 27) (oi := ⟨some 76, _, _, _, _, _⟩) (v := ?_) rfl (by kernel_rfl) (by kernel_rfl) (by kernel_rfl) (fun _ _ _ h => h) (Or.inl ⟨by rfl, ?_⟩) (by assumption) ?_
                rotate_left
                focus (intro wq hSq; (try dsimp only at hSq); go_simp; try with_reducible rfl)
                try simp only [Act.put, List.setIfInBounds_toArray, List.set_cons_zero, List.set_cons_succ]
                refine wpAnyH_take (i := 28) (oi := ⟨some 77, _, _, _, _, _⟩) (v := undef) rfl (by kernel_rfl) (by kernel_rfl) (by kernel_rfl) (fun _ _ _ h => h) (Or.inr ⟨by rfl, rfl⟩) (by assumption) ?_
                try simp only [Act.put, List.setIfInBounds_toArray, List.set_cons_zero, List.set_cons_succ]
                refine wpAnyH_take (i := 29) (oi := ⟨some 78, _, _, _, _, _⟩) (v := undef) rfl (by kernel_rfl) (by kernel_rfl) (by kernel_rfl) (fun _ _ _ h => h) (Or.inr ⟨by rfl, rfl⟩) (by assumption) ?_
                try simp only [Act.put, List.setIfInBounds_toArray, List.set_cons_zero, List.set_cons_succ]
                refine wpAnyH_take (i := 30) (oi := ⟨some 79, _, _, _, _, _⟩) (v := undef) rfl (by kernel_rfl) (by kernel_rfl) (by kernel_rfl) (fun _ _ _ h => h) (Or.inr ⟨by rfl, rfl⟩) (by assumption) ?_
                try simp only [Act.put, List.setIfInBounds_toArray, List.set_cons_zero, List.set_cons_succ]
                refine wpAnyH_take (i := 31) (oi := ⟨some 80, _, _, _, _, _⟩) (v := undef) rfl (by kernel_rfl) (by kernel_rfl) (by kernel_rfl) (fun _ _ _ h => h) (Or.inr ⟨by rfl, rfl⟩) (by assumption) ?_
                try simp only [Act.put, List.setIfInBounds_toArray, List.set_cons_zero, List.set_cons_succ]
                refine wpAnyH_take (i := 32) (oi := ⟨some 81, _, _, _, _, _⟩) (v := undef) rfl (by kernel_rfl) (by kernel_rfl) (by kernel_rfl) (fun _ _ _ h => h) (Or.inr ⟨by rfl, rfl⟩) (by assumption) ?_
                try simp only [Act.put, List.setIfInBounds_toArray, List.set_cons_zero, List.set_cons_succ]
                refine wpAnyH_take (i := 33) (oi := ⟨some 82, _, _, _, _, _⟩) (v := undef) rfl (by kernel_rfl) (by kernel_rfl) (by kernel_rfl) (fun _ _ _ h => h) (Or.inr ⟨by rfl, rfl⟩) (by assumption) ?_
                try simp only [Act.put, List.setIfInBounds_toArray, List.set_cons_zero, List.set_cons_succ]
                refine wpAnyH_take (i := 34) (oi := ⟨some 83, _, _, _, _, _⟩) (v := undef) rfl (by kernel_rfl) (by kernel_rfl) (by kernel_rfl) (fun _ _ _ h => h) (Or.inr ⟨by rfl, rfl⟩) (by assumption) ?_
                try simp only [Act.put, List.setIfInBounds_toArray, List.set_cons_zero, List.set_cons_succ]
                refine wpAnyH_take (i := 35) (oi := ⟨some 84, _, _, _, _, _⟩) (v := undef) rfl (by kernel_rfl) (by kernel_rfl) (by kernel_rfl) (fun _ _ _ h => h) (Or.inr ⟨by rfl, rfl⟩) (by assumption) ?_
                try simp only [Act.put, List.setIfInBounds_toArray, List.set_cons_zero, List.set_cons_succ]
                refine wpAnyH_take (i := 36) (oi := ⟨some 85, _, _, _, _, _⟩) (v := undef) rfl (by kernel_rfl) (by kernel_rfl) (by kernel_rfl) (fun _ _ _ h => h) (Or.inr ⟨by rfl, rfl⟩) (by assumption) ?_
                try simp only [Act.put, List.setIfInBounds_toArray, List.set_cons_zero, List.set_cons_succ]
                refine wpAnyH_take (i := 37) (oi := ⟨some 86, _, _, _, _, _⟩) (v := ?_) rfl (by kernel_rfl) (by kernel_rfl) (by kernel_rfl) (fun _ _ _ h => h) (Or.inl ⟨by rfl, ?_⟩) (by assumption) ?_
                rotate_left
                focus (intro wq hSq; (try dsimp only at hSq); go_simp; try with_reducible rfl)
                try simp only [Act.put, List.setIfInBounds_toArray, List.set_cons_zero, List.set_cons_succ]
                refine wpAnyH_done (by kernel_rfl) ?_ _
                go_wp2_with fail
                go_ret
                exact ⟨by rw [HV.out] <;> rfl, below_then hbw (below_then upV3 hHeld.2.2.2)⟩
              · rcases r3 with _ | _
                · by_cases hm : 64 < m4
                  · have z4 : decide ((64 : Int) < (m4 : Int)) = true := decide_eq_true (by omega)
                    have hm' := decide_eq_true hm
                    have HM' := Lib.hid hm'
                    clear hm hm'
                    have HV : Hid (mayTB S B t = false) := may_one HE.out HX.out.1 HX.out.2 (by unfold okH; rw [show (⟨kx, ⟨lx, hx⟩, mx⟩ : HoldM).key = kx from rfl, hm4.out, HM'.out]; simp)
                    clear HO
                    go_upto_region 8 with fail
                    refine wp_region_held_drew (S := (fun W => (W.cell? ⟨w.heap.size, 0, none⟩ = some (.int .i64 N) ∧ W.cell? ⟨w.heap.size, 1, none⟩ = some (.int .i64 S) ∧ W.cell? ⟨w.heap.size, 2, none⟩ = some (.int .i64 B) ∧ W.cell? ⟨w.heap.size, 3, none⟩ = some (.int .i64 P) ∧ W.cell? ⟨w.heap.size, 4, none⟩ = some (.int .i64 J) ∧ W.cell? ⟨w.heap.size, 5, none⟩ = some (.int .i64 L) ∧ W.cell? ⟨w.heap.size, 6, none⟩ = some (.int .i64 E) ∧ W.cell? ⟨w.heap.size, 7, none⟩ = some (.int .i64 T)) ∧ (W.cell? ⟨w.heap.size + 1, 0, none⟩ = some (.slice aS nS cS) ∧ W.cell? ⟨w.heap.size + 1, 1, none⟩ = some (.slice aH nH cH) ∧ W.cell? ⟨w.heap.size + 1, 2, none⟩ = some (.slice aQ nQ cQ)) ∧ (W.cell? (ad.add (k * 4)) = some (.int .i64 kx) ∧ W.cell? ⟨(ad.add (k * 4)).block, (ad.add (k * 4)).off + 1, none⟩ = some (.int .i64 lx) ∧ W.cell? ⟨(ad.add (k * 4)).block, (ad.add (k * 4)).off + 2, none⟩ = some (.int .i64 hx) ∧ W.cell? ⟨(ad.add (k * 4)).block, (ad.add (k * 4)).off + 3, none⟩ = some (.int .i8 mx)) ∧ Below V3.heap.size V3 W)) (by kernel_rfl) ?_ (fun hHeld => ?_)
                    focus (exact hS _ hb3.drew)
                    refine wpAnyH_take (i := 0) (oi := ⟨some 49, _, _, _, _, _⟩) (v := ?_) rfl (by kernel_rfl) (by kernel_rfl) (by kernel_rfl) (fun _ _ _ h => h) (Or.inl ⟨by rfl, ?_⟩) (by assumption) ?_
                    rotate_left
                    focus (intro wq hSq; (try dsimp only at hSq); go_simp; try with_reducible rfl)
                    try simp only [Act.put, List.setIfInBounds_toArray, List.set_cons_zero, List.set_cons_succ]
                    refine wpAnyH_take (i := 1) (oi := ⟨some 50, _, _, _, _, _⟩) (v := ?_) rfl (by kernel_rfl) (by kernel_rfl) (by kernel_rfl) (fun _ _ _ h => h) (Or.inl ⟨by rfl, ?_⟩) (by assumption) ?_
                    rotate_left
                    focus (intro wq hSq; (try dsimp only at hSq); go_simp; try with_reducible rfl)
                    try simp only [Act.put, List.setIfInBounds_toArray, List.set_cons_zero, List.set_cons_succ]
                    refine wpAnyH_take (i := 2) (oi := ⟨some 51, _, _, _, _, _⟩) (v := ?_) rfl (by kernel_rfl) (by kernel_rfl) (by kernel_rfl) (fun _ _ _ h => h) (Or.inl ⟨by rfl, ?_⟩) (by assumption) ?_
                    rotate_left
                    focus (intro wq hSq; (try dsimp only at hSq); go_simp; try with_reducible rfl)
                    try simp only [Act.put, List.setIfInBounds_toArray, List.set_cons_zero, List.set_cons_succ]
                    refine wpAnyH_take (i := 3) (oi := ⟨some 52, _, _, _, _, _⟩) (v := ?_) rfl (by kernel_rfl) (by kernel_rfl) (by kernel_rfl) (fun _ _ _ h => h) (Or.inl ⟨by rfl, ?_⟩) (by assumption) ?_
                    rotate_left
                    focus (intro wq hSq; (try dsimp only at hSq); go_simp; try with_reducible rfl)
                    try simp only [Act.put, List.setIfInBounds_toArray, List.set_cons_zero, List.set_cons_succ]
                    refine wpAnyH_take (i := 4) (oi := ⟨some 53, _, _, _, _, _⟩) (v := ?_) rfl (by kernel_rfl) (by kernel_rfl) (by kernel_rfl) (fun _ _ _ h => h) (Or.inl ⟨by rfl, ?_⟩) (by assumption) ?_
                    rotate_left
                    focus (intro wq hSq; (try dsimp only at hSq); go_simp; try with_reducible rfl)
                    try simp only [Act.put, List.setIfInBounds_toArray, List.set_cons_zero, List.set_cons_succ]
                    refine wpAnyH_take (i := 5) (oi := ⟨some 54, _, _, _, _, _⟩) (v := ?_) rfl (by kernel_rfl) (by kernel_rfl) (by kernel_rfl) (fun _ _ _ h => h) (Or.inl ⟨by rfl, ?_⟩) (by assumption) ?_
                    rotate_left
                    focus (intro wq hSq; (try dsimp only at hSq); go_simp; try with_reducible rfl)
                    try simp only [Act.put, List.setIfInBounds_toArray, List.set_cons_zero, List.set_cons_succ]
                    refine wpAnyH_take (i := 6) (oi := ⟨some 55, _, _, _, _, _⟩) (v := ?_) rfl (by kernel_rfl) (by kernel_rfl) (by kernel_rfl) (fun _ _ _ h => h) (Or.inl ⟨by rfl, ?_⟩) (by assumption) ?_
                    rotate_left
                    focus (intro wq hSq; (try dsimp only at hSq); go_simp; try with_reducible rfl)
                    try simp only [Act.put, List.setIfInBounds_toArray, List.set_cons_zero, List.set_cons_succ]
                    refine wpAnyH_take (i := 7) (oi := ⟨some 56, _, _, _, _, _⟩) (v := ?_) rfl (by kernel_rfl) (by kernel_rfl) (by kernel_rfl) (fun _ _ _ h => h) (Or.inl ⟨by rfl, ?_⟩) (by assumption) ?_
                    rotate_left
                    focus (intro wq hSq; (try dsimp only at hSq); go_simp; try with_reducible rfl)
                    try simp only [Act.put, List.setIfInBounds_toArray, List.set_cons_zero, List.set_cons_succ]
                    refine wpAnyH_ready (rs := [8]) (by kernel_rfl) (by simp) ?_
                    refine AllReadyH.cons (o := ⟨some 57, _, _, _, _, _⟩) rfl (fun K hK => ?_) AllReadyH.nil
                    go_simp
                    go_at_call 22
                    (with_reducible refine (hHo _ ?_).mono ?_)
                    assumption
                    rintro e W2 ⟨rfl, hN⟩
                    go_wp2_with fail
                    refine hK.out _ _ ?_ (fun hHeld => ?_)
                    focus (exact hN)
                    clear hK K
                    try simp only [Act.put, List.setIfInBounds_toArray, List.set_cons_zero, List.set_cons_succ]
                    refine wpAnyH_take (i := 9) (oi := ⟨some 58, _, _, _, _, _⟩) (v := ?_) rfl (by kernel_rfl) (by kernel_rfl) (by kernel_rfl) (fun _ _ _ h => h) (Or.inl ⟨by rfl, ?_⟩) (by assumption) ?_
                    rotate_left
                    focus (intro wq hSq; (try dsimp only at hSq); go_simp; try with_reducible rfl)
                    try simp only [Act.put, List.setIfInBounds_toArray, List.set_cons_zero, List.set_cons_succ]
                    refine wpAnyH_take (i := 10) (oi := ⟨some 59, _, _, _, _, _⟩) (v := ?_) rfl (by kernel_rfl) (by kernel_rfl) (by kernel_rfl) (fun _ _ _ h => h) (Or.inl ⟨by rfl, ?_⟩) (by assumption) ?_
                    rotate_left
                    focus (intro wq hSq; (try dsimp only at hSq); go_simp; try with_reducible rfl)
                    try simp only [Act.put, List.setIfInBounds_toArray, List.set_cons_zero, List.set_cons_succ]
                    refine wpAnyH_take (i := 11) (oi := ⟨some 60, _, _, _, _, _⟩) (v := ?_) rfl (by kernel_rfl) (by kernel_rfl) (by kernel_rfl) (fun _ _ _ h => h) (Or.inl ⟨by rfl, ?_⟩) (by assumption) ?_
                    rotate_left
                    focus (intro wq hSq; (try dsimp only at hSq); go_simp; try with_reducible rfl)
                    try simp only [Act.put, List.setIfInBounds_toArray, List.set_cons_zero, List.set_cons_succ]
                    refine wpAnyH_take (i := 12) (oi := ⟨some 61, _, _, _, _, _⟩) (v := ?_) rfl (by kernel_rfl) (by kernel_rfl) (by kernel_rfl) (fun _ _ _ h => h) (Or.inl ⟨by rfl, ?_⟩) (by assumption) ?_
                    rotate_left
                    focus (intro wq hSq; (try dsimp only at hSq); go_simp; try with_reducible rfl)
                    try simp only [Act.put, List.setIfInBounds_toArray, List.set_cons_zero, List.set_cons_succ]
                    refine wpAnyH_take (i := 13) (oi := ⟨some 62, _, _, _, _, _⟩) (v := ?_) rfl (by kernel_rfl) (by kernel_rfl) (by kernel_rfl) (fun _ _ _ h => h) (Or.inl ⟨by rfl, ?_⟩) (by assumption) ?_
                    rotate_left
                    focus (intro wq hSq; (try dsimp only at hSq); go_simp; try with_reducible rfl)
                    try simp only [Act.put, List.setIfInBounds_toArray, List.set_cons_zero, List.set_cons_succ]
                    refine wpAnyH_take (i := 14) (oi := ⟨some 63, _, _, _, _, _⟩) (v := ?_) rfl (by kernel_rfl) (by kernel_rfl) (by kernel_rfl) (fun _ _ _ h => h) (Or.inl ⟨by rfl, ?_⟩) (by assumption) ?_
                    rotate_left
                    focus (intro wq hSq; (try dsimp only at hSq); go_simp; try with_reducible rfl)
                    try simp only [Act.put, List.setIfInBounds_toArray, List.set_cons_zero, List.set_cons_succ]
                    refine wpAnyH_take (i := 15) (oi := ⟨some 64, _, _, _, _, _⟩) (v := ?_) rfl (by kernel_rfl) (by kernel_rfl) (by kernel_rfl) (fun _ _ _ h => h) (Or.inl ⟨by rfl, ?_⟩) (by assumption) ?_
                    rotate_left
                    focus (intro wq hSq; (try dsimp only at hSq); go_simp; try with_reducible rfl)
                    try simp only [Act.put, List.setIfInBounds_toArray, List.set_cons_zero, List.set_cons_succ]
                    refine wpAnyH_take (i := 16) (oi := ⟨some 65, _, _, _, _, _⟩) (v := ?_) rfl (by kernel_rfl) (by kernel_rfl) (by kernel_rfl) (fun _ _ _ h => h) (Or.inl ⟨by rfl, ?_⟩) (by assumption) ?_
                    rotate_left
                    focus (intro wq hSq; (try dsimp only at hSq); go_simp; try with_reducible rfl)
                    try simp only [Act.put, List.setIfInBounds_toArray, List.set_cons_zero, List.set_cons_succ]
                    refine wpAnyH_take (i := 17) (oi := ⟨some 66, _, _, _, _, _⟩) (v := ?_) rfl (by kernel_rfl) (by kernel_rfl) (by kernel_rfl) (fun _ _ _ h => h) (Or.inl ⟨by rfl, ?_⟩) (by assumption) ?_
                    rotate_left
                    focus (intro wq hSq; (try dsimp only at hSq); go_simp; try with_reducible rfl)
                    try simp only [Act.put, List.setIfInBounds_toArray, List.set_cons_zero, List.set_cons_succ]
                    refine wpAnyH_take (i := 18) (oi := ⟨some 67, _, _, _, _, _⟩) (v := ?_) rfl (by kernel_rfl) (by kernel_rfl) (by kernel_rfl) (fun _ _ _ h => h) (Or.inl ⟨by rfl, ?_⟩) (by assumption) ?_
                    rotate_left
                    focus (intro wq hSq; (try dsimp only at hSq); go_simp; try with_reducible rfl)
                    try simp only [Act.put, List.setIfInBounds_toArray, List.set_cons_zero, List.set_cons_succ]
                    refine wpAnyH_take (i := 19) (oi := ⟨some 68, _, _, _, _, _⟩) (v := ?_) rfl (by kernel_rfl) (by kernel_rfl) (by kernel_rfl) (fun _ _ _ h => h) (Or.inl ⟨by rfl, ?_⟩) (by assumption) ?_
                    rotate_left
                    focus (intro wq hSq; (try dsimp only at hSq); go_simp; try with_reducible rfl)
                    try simp only [Act.put, List.setIfInBounds_toArray, List.set_cons_zero, List.set_cons_succ]
                    refine wpAnyH_take (i := 20) (oi := ⟨some 69, _, _, _, _, _⟩) (v := ?_) rfl (by kernel_rfl) (by kernel_rfl) (by kernel_rfl) (fun _ _ _ h => h) (Or.inl ⟨by rfl, ?_⟩) (by assumption) ?_
                    rotate_left
                    focus (intro wq hSq; (try dsimp only at hSq); go_simp; try with_reducible rfl)
                    try simp only [Act.put, List.setIfInBounds_toArray, List.set_cons_zero, List.set_cons_succ]
                    refine wpAnyH_take (i := 21) (oi := ⟨some 70, _, _, _, _, _⟩) (v := ?_) rfl (by kernel_rfl) (by kernel_rfl) (by kernel_rfl) (fun _ _ _ h => h) (Or.inl ⟨by rfl, ?_⟩) (by assumption) ?_
                    rotate_left
                    focus (intro wq hSq; (try dsimp only at hSq); go_simp; try with_reducible rfl)
                    try simp only [Act.put, List.setIfInBounds_toArray, List.set_cons_zero, List.set_cons_succ]
                    refine wpAnyH_take (i := 22) (oi := ⟨some 71, _, _, _, _, _⟩) (v := ?_) rfl (by kernel_rfl) (by kernel_rfl) (by kernel_rfl) (fun _ _ _ h => h) (Or.inl ⟨by rfl, ?_⟩) (by assumption) ?_
                    rotate_left
                    focus (intro wq hSq; (try dsimp only at hSq); go_simp; try with_reducible rfl)
                    try simp only [Act.put, List.setIfInBounds_toArray, List.set_cons_zero, List.set_cons_succ]
                    refine wpAnyH_take (i := 23) (oi := ⟨some 72, _, _, _, _, _⟩) (v := ?_) rfl (by kernel_rfl) (by kernel_rfl) (by kernel_rfl) (fun _ _ _ h => h) (Or.inl ⟨by rfl, ?_⟩) (by assumption) ?_
                    rotate_left
                    focus (intro wq hSq; (try dsimp only at hSq); go_simp; try with_reducible rfl)
                    try simp only [Act.put, List.setIfInBounds_toArray, List.set_cons_zero, List.set_cons_succ]
                    refine wpAnyH_take (i := 24) (oi := ⟨some 73, _, _, _, _, _⟩) (v := ?_) rfl (by kernel_rfl) (by kernel_rfl) (by kernel_rfl) (fun _ _ _ h => h) (Or.inl ⟨by rfl, ?_⟩) (by assumption) ?_
                    rotate_left
                    focus (intro wq hSq; (try dsimp only at hSq); go_simp; try with_reducible rfl)
                    try simp only [Act.put, List.setIfInBounds_toArray, List.set_cons_zero, List.set_cons_succ]
                    refine wpAnyH_ready (rs := [25]) (by kernel_rfl) (by simp) ?_
                    refine AllReadyH.cons (o := ⟨some 74, _, _, _, _, _⟩) rfl (fun K hK => ?_) AllReadyH.nil
                    go_simp
                    go_at_call 23
                    (with_reducible refine (hTo _ _ ?_).mono ?_)
                    assumption
                    rintro e W4 ⟨rfl, hN⟩
                    go_wp2_with fail
                    refine hK.out _ _ ?_ (fun hHeld => ?_)
                    focus (exact hN)
                    clear hK K
                    try simp only [Act.put, List.setIfInBounds_toArray, List.set_cons_zero, List.set_cons_succ]
                    refine wpAnyH_take (i := 26) (oi := ⟨some 75, _, _, _, _, _⟩) (v := ?_) rfl (by kernel_rfl) (by kernel_rfl) (by kernel_rfl) (fun _ _ _ h => h) (Or.inl ⟨by rfl, ?_⟩) (by assumption) ?_
                    rotate_left
                    focus (intro wq hSq; (try dsimp only at hSq); go_simp; try with_reducible rfl)
                    try simp only [Act.put, List.setIfInBounds_toArray, List.set_cons_zero, List.set_cons_succ]
                    refine wpAnyH_take (i := 27) (oi := ⟨some 76, _, _, _, _, _⟩) (v := ?_) rfl (by kernel_rfl) (by kernel_rfl) (by kernel_rfl) (fun _ _ _ h => h) (Or.inl ⟨by rfl, ?_⟩) (by assumption) ?_
                    rotate_left
                    focus (intro wq hSq; (try dsimp only at hSq); go_simp; try with_reducible rfl)
                    try simp only [Act.put, List.setIfInBounds_toArray, List.set_cons_zero, List.set_cons_succ]
                    refine wpAnyH_take (i := 28) (oi := ⟨some 77, _, _, _, _, _⟩) (v := ?_) rfl (by kernel_rfl) (by kernel_rfl) (by kernel_rfl) (fun _ _ _ h => h) (Or.inl ⟨by rfl, ?_⟩) (by assumption) ?_
                    rotate_left
                    focus (intro wq hSq; (try dsimp only at hSq); go_simp; try with_reducible rfl)
                    try simp only [Act.put, List.setIfInBounds_toArray, List.set_cons_zero, List.set_cons_succ]
                    refine wpAnyH_take (i := 29) (oi := ⟨some 78, _, _, _, _, _⟩) (v := ?_) rfl (by kernel_rfl) (by kernel_rfl) (by kernel_rfl) (fun _ _ _ h => h) (Or.inl ⟨by rfl, ?_⟩) (by assumption) ?_
                    rotate_left
                    focus (intro wq hSq; (try dsimp only at hSq); go_simp; try with_reducible rfl)
                    try simp only [Act.put, List.setIfInBounds_toArray, List.set_cons_zero, List.set_cons_succ]
                    refine wpAnyH_take (i := 30) (oi := ⟨some 79, _, _, _, _, _⟩) (v := ?_) rfl (by kernel_rfl) (by kernel_rfl) (by kernel_rfl) (fun _ _ _ h => h) (Or.inl ⟨by rfl, ?_⟩) (by assumption) ?_
                    rotate_left
                    focus (intro wq hSq; (try dsimp only at hSq); go_simp; try with_reducible rfl)
                    try simp only [Act.put, List.setIfInBounds_toArray, List.set_cons_zero, List.set_cons_succ]
                    refine wpAnyH_take (i := 31) (oi := ⟨some 80, _, _, _, _, _⟩) (v := ?_) rfl (by kernel_rfl) (by kernel_rfl) (by kernel_rfl) (fun _ _ _ h => h) (Or.inl ⟨by rfl, ?_⟩) (by assumption) ?_
                    rotate_left
                    focus (intro wq hSq; (try dsimp only at hSq); go_simp; try with_reducible rfl)
                    try simp only [Act.put, List.setIfInBounds_toArray, List.set_cons_zero, List.set_cons_succ]
                    refine wpAnyH_take (i := 32) (oi := ⟨some 81, _, _, _, _, _⟩) (v := ?_) rfl (by kernel_rfl) (by kernel_rfl) (by kernel_rfl) (fun _ _ _ h => h) (Or.inl ⟨by rfl, ?_⟩) (by assumption) ?_
                    rotate_left
                    focus (intro wq hSq; (try dsimp only at hSq); go_simp; try with_reducible rfl)
                    try simp only [Act.put, List.setIfInBounds_toArray, List.set_cons_zero, List.set_cons_succ]
                    refine wpAnyH_take (i := 33) (oi := ⟨some 82, _, _, _, _, _⟩) (v := ?_) rfl (by kernel_rfl) (by kernel_rfl) (by kernel_rfl) (fun _ _ _ h => h) (Or.inl ⟨by rfl, ?_⟩) (by assumption) ?_
                    rotate_left
                    focus (intro wq hSq; (try dsimp only at hSq); go_simp; try with_reducible rfl)
                    try simp only [Act.put, List.setIfInBounds_toArray, List.set_cons_zero, List.set_cons_succ]
                    refine wpAnyH_ready (rs := [34]) (by kernel_rfl) (by simp) ?_
                    refine AllReadyH.cons (o := ⟨some 83, _, _, _, _, _⟩) rfl (fun K hK => ?_) AllReadyH.nil
                    go_simp
                    go_at_call 24
                    (with_reducible refine (hOf _ ?_).mono ?_)
                    assumption
                    rintro e W5 ⟨⟨A5, c5, rfl⟩, hN⟩
                    go_wp2_with fail
                    refine hK.out _ _ ?_ (fun hHeld => ?_)
                    focus (exact hN)
                    clear hK K
                    try simp only [Act.put, List.setIfInBounds_toArray, List.set_cons_zero, List.set_cons_succ]
                    refine wpAnyH_take (i := 35) (oi := ⟨some 84, _, _, _, _, _⟩) (v := ?_) rfl (by kernel_rfl) (by kernel_rfl) (by kernel_rfl) (fun _ _ _ h => h) (Or.inl ⟨by rfl, ?_⟩) (by assumption) ?_
                    rotate_left
                    focus (intro wq hSq; (try dsimp only at hSq); go_simp; try with_reducible rfl)
                    try simp only [Act.put, List.setIfInBounds_toArray, List.set_cons_zero, List.set_cons_succ]
                    refine wpAnyH_take (i := 36) (oi := ⟨some 85, _, _, _, _, _⟩) (v := ?_) rfl (by kernel_rfl) (by kernel_rfl) (by kernel_rfl) (fun _ _ _ h => h) (Or.inl ⟨by rfl, ?_⟩) (by assumption) ?_
                    rotate_left
                    focus (intro wq hSq; (try dsimp only at hSq); go_simp; try with_reducible rfl)
                    try simp only [Act.put, List.setIfInBounds_toArray, List.set_cons_zero, List.set_cons_succ]
                    refine wpAnyH_take (i := 37) (oi := ⟨some 86, _, _, _, _, _⟩) (v := ?_) rfl (by kernel_rfl) (by kernel_rfl) (by kernel_rfl) (fun _ _ _ h => h) (Or.inl ⟨by rfl, ?_⟩) (by assumption) ?_
                    rotate_left
                    focus (intro wq hSq; (try dsimp only at hSq); go_simp; try with_reducible rfl)
                    try simp only [Act.put, List.setIfInBounds_toArray, List.set_cons_zero, List.set_cons_succ]
                    refine wpAnyH_done (by kernel_rfl) ?_ _
                    go_wp2_with fail
                    go_ret
                    exact ⟨by rw [HV.out] <;> rfl, below_then hbw (below_then upV3 hHeld.2.2.2)⟩
                  · have HO' : Hid (okTo B t.sl l (k + 1)) := ok_next HO.out HX.out.1 HX.out.2 (by show okH B t.sl l k _ = true; unfold okH; rw [show (⟨kx, ⟨lx, hx⟩, mx⟩ : HoldM).key = kx from rfl, show (⟨kx, ⟨lx, hx⟩, mx⟩ : HoldM).s = ⟨lx, hx⟩ from rfl, hr1.out, hr2.out, hr3.out, hm4.out, decide_eq_false hm]; rfl)
                    have z4 : decide ((64 : Int) < (m4 : Int)) = false := decide_eq_false (by omega)
                    clear HO hm
                    go_upto_region 8 with fail
                    refine wp_region_held_drew (S := (fun W => (W.cell? ⟨w.heap.size, 0, none⟩ = some (.int .i64 N) ∧ W.cell? ⟨w.heap.size, 1, none⟩ = some (.int .i64 S) ∧ W.cell? ⟨w.heap.size, 2, none⟩ = some (.int .i64 B) ∧ W.cell? ⟨w.heap.size, 3, none⟩ = some (.int .i64 P) ∧ W.cell? ⟨w.heap.size, 4, none⟩ = some (.int .i64 J) ∧ W.cell? ⟨w.heap.size, 5, none⟩ = some (.int .i64 L) ∧ W.cell? ⟨w.heap.size, 6, none⟩ = some (.int .i64 E) ∧ W.cell? ⟨w.heap.size, 7, none⟩ = some (.int .i64 T)) ∧ (W.cell? ⟨w.heap.size + 1, 0, none⟩ = some (.slice aS nS cS) ∧ W.cell? ⟨w.heap.size + 1, 1, none⟩ = some (.slice aH nH cH) ∧ W.cell? ⟨w.heap.size + 1, 2, none⟩ = some (.slice aQ nQ cQ)) ∧ (W.cell? (ad.add (k * 4)) = some (.int .i64 kx) ∧ W.cell? ⟨(ad.add (k * 4)).block, (ad.add (k * 4)).off + 1, none⟩ = some (.int .i64 lx) ∧ W.cell? ⟨(ad.add (k * 4)).block, (ad.add (k * 4)).off + 2, none⟩ = some (.int .i64 hx) ∧ W.cell? ⟨(ad.add (k * 4)).block, (ad.add (k * 4)).off + 3, none⟩ = some (.int .i8 mx)) ∧ Below V3.heap.size V3 W)) (by kernel_rfl) ?_ (fun hHeld => ?_)
                    focus (exact hS _ hb3.drew)
                    refine wpAnyH_take (i := 0) (oi := ⟨some 49, _, _, _, _, _⟩) (v := ?_) rfl (by kernel_rfl) (by kernel_rfl) (by kernel_rfl) (fun _ _ _ h => h) (Or.inl ⟨by rfl, ?_⟩) (by assumption) ?_
                    rotate_left
                    focus (intro wq hSq; (try dsimp only at hSq); go_simp; try with_reducible rfl)
                    try simp only [Act.put, List.setIfInBounds_toArray, List.set_cons_zero, List.set_cons_succ]
                    refine wpAnyH_take (i := 1) (oi := ⟨some 50, _, _, _, _, _⟩) (v := ?_) rfl (by kernel_rfl) (by kernel_rfl) (by kernel_rfl) (fun _ _ _ h => h) (Or.inl ⟨by rfl, ?_⟩) (by assumption) ?_
                    rotate_left
                    focus (intro wq hSq; (try dsimp only at hSq); go_simp; try with_reducible rfl)
                    try simp only [Act.put, List.setIfInBounds_toArray, List.set_cons_zero, List.set_cons_succ]
                    refine wpAnyH_take (i := 2) (oi := ⟨some 51, _, _, _, _, _⟩) (v := ?_) rfl (by kernel_rfl) (by kernel_rfl) (by kernel_rfl) (fun _ _ _ h => h) (Or.inl ⟨by rfl, ?_⟩) (by assumption) ?_
                    rotate_left
                    focus (intro wq hSq; (try dsimp only at hSq); go_simp; try with_reducible rfl)
                    try simp only [Act.put, List.setIfInBounds_toArray, List.set_cons_zero, List.set_cons_succ]
                    refine wpAnyH_take (i := 3) (oi := ⟨some 52, _, _, _, _, _⟩) (v := ?_) rfl (by kernel_rfl) (by kernel_rfl) (by kernel_rfl) (fun _ _ _ h => h) (Or.inl ⟨by rfl, ?_⟩) (by assumption) ?_
                    rotate_left
                    focus (intro wq hSq; (try dsimp only at hSq); go_simp; try with_reducible rfl)
                    try simp only [Act.put, List.setIfInBounds_toArray, List.set_cons_zero, List.set_cons_succ]
                    refine wpAnyH_take (i := 4) (oi := ⟨some 53, _, _, _, _, _⟩) (v := ?_) rfl (by kernel_rfl) (by kernel_rfl) (by kernel_rfl) (fun _ _ _ h => h) (Or.inl ⟨by rfl, ?_⟩) (by assumption) ?_
                    rotate_left
                    focus (intro wq hSq; (try dsimp only at hSq); go_simp; try with_reducible rfl)
                    try simp only [Act.put, List.setIfInBounds_toArray, List.set_cons_zero, List.set_cons_succ]
                    refine wpAnyH_take (i := 5) (oi := ⟨some 54, _, _, _, _, _⟩) (v := ?_) rfl (by kernel_rfl) (by kernel_rfl) (by kernel_rfl) (fun _ _ _ h => h) (Or.inl ⟨by rfl, ?_⟩) (by assumption) ?_
                    rotate_left
                    focus (intro wq hSq; (try dsimp only at hSq); go_simp; try with_reducible rfl)
                    try simp only [Act.put, List.setIfInBounds_toArray, List.set_cons_zero, List.set_cons_succ]
                    refine wpAnyH_take (i := 6) (oi := ⟨some 55, _, _, _, _, _⟩) (v := ?_) rfl (by kernel_rfl) (by kernel_rfl) (by kernel_rfl) (fun _ _ _ h => h) (Or.inl ⟨by rfl, ?_⟩) (by assumption) ?_
                    rotate_left
                    focus (intro wq hSq; (try dsimp only at hSq); go_simp; try with_reducible rfl)
                    try simp only [Act.put, List.setIfInBounds_toArray, List.set_cons_zero, List.set_cons_succ]
                    refine wpAnyH_take (i := 7) (oi := ⟨some 56, _, _, _, _, _⟩) (v := ?_) rfl (by kernel_rfl) (by kernel_rfl) (by kernel_rfl) (fun _ _ _ h => h) (Or.inl ⟨by rfl, ?_⟩) (by assumption) ?_
                    rotate_left
                    focus (intro wq hSq; (try dsimp only at hSq); go_simp; try with_reducible rfl)
                    try simp only [Act.put, List.setIfInBounds_toArray, List.set_cons_zero, List.set_cons_succ]
                    refine wpAnyH_ready (rs := [8]) (by kernel_rfl) (by simp) ?_
                    refine AllReadyH.cons (o := ⟨some 57, _, _, _, _, _⟩) rfl (fun K hK => ?_) AllReadyH.nil
                    go_simp
                    go_at_call 22
                    (with_reducible refine (hHo _ ?_).mono ?_)
                    assumption
                    rintro e W2 ⟨rfl, hN⟩
                    go_wp2_with fail
                    refine hK.out _ _ ?_ (fun hHeld => ?_)
                    focus (exact hN)
                    clear hK K
                    try simp only [Act.put, List.setIfInBounds_toArray, List.set_cons_zero, List.set_cons_succ]
                    refine wpAnyH_take (i := 9) (oi := ⟨some 58, _, _, _, _, _⟩) (v := ?_) rfl (by kernel_rfl) (by kernel_rfl) (by kernel_rfl) (fun _ _ _ h => h) (Or.inl ⟨by rfl, ?_⟩) (by assumption) ?_
                    rotate_left
                    focus (intro wq hSq; (try dsimp only at hSq); go_simp; try with_reducible rfl)
                    try simp only [Act.put, List.setIfInBounds_toArray, List.set_cons_zero, List.set_cons_succ]
                    refine wpAnyH_take (i := 10) (oi := ⟨some 59, _, _, _, _, _⟩) (v := ?_) rfl (by kernel_rfl) (by kernel_rfl) (by kernel_rfl) (fun _ _ _ h => h) (Or.inl ⟨by rfl, ?_⟩) (by assumption) ?_
                    rotate_left
                    focus (intro wq hSq; (try dsimp only at hSq); go_simp; try with_reducible rfl)
                    try simp only [Act.put, List.setIfInBounds_toArray, List.set_cons_zero, List.set_cons_succ]
                    refine wpAnyH_take (i := 11) (oi := ⟨some 60, _, _, _, _, _⟩) (v := ?_) rfl (by kernel_rfl) (by kernel_rfl) (by kernel_rfl) (fun _ _ _ h => h) (Or.inl ⟨by rfl, ?_⟩) (by assumption) ?_
                    rotate_left
                    focus (intro wq hSq; (try dsimp only at hSq); go_simp; try with_reducible rfl)
                    try simp only [Act.put, List.setIfInBounds_toArray, List.set_cons_zero, List.set_cons_succ]
                    refine wpAnyH_take (i := 12) (oi := ⟨some 61, _, _, _, _, _⟩) (v := ?_) rfl (by kernel_rfl) (by kernel_rfl) (by kernel_rfl) (fun _ _ _ h => h) (Or.inl ⟨by rfl, ?_⟩) (by assumption) ?_
                    rotate_left
                    focus (intro wq hSq; (try dsimp only at hSq); go_simp; try with_reducible rfl)
                    try simp only [Act.put, List.setIfInBounds_toArray, List.set_cons_zero, List.set_cons_succ]
                    refine wpAnyH_take (i := 13) (oi := ⟨some 62, _, _, _, _, _⟩) (v := ?_) rfl (by kernel_rfl) (by kernel_rfl) (by kernel_rfl) (fun _ _ _ h => h) (Or.inl ⟨by rfl, ?_⟩) (by assumption) ?_
                    rotate_left
                    focus (intro wq hSq; (try dsimp only at hSq); go_simp; try with_reducible rfl)
                    try simp only [Act.put, List.setIfInBounds_toArray, List.set_cons_zero, List.set_cons_succ]
                    refine wpAnyH_take (i := 14) (oi := ⟨some 63, _, _, _, _, _⟩) (v := ?_) rfl (by kernel_rfl) (by kernel_rfl) (by kernel_rfl) (fun _ _ _ h => h) (Or.inl ⟨by rfl, ?_⟩) (by assumption) ?_
                    rotate_left
                    focus (intro wq hSq; (try dsimp only at hSq); go_simp; try with_reducible rfl)
                    try simp only [Act.put, List.setIfInBounds_toArray, List.set_cons_zero, List.set_cons_succ]
                    refine wpAnyH_take (i := 15) (oi := ⟨some 64, _, _, _, _, _⟩) (v := ?_) rfl (by kernel_rfl) (by kernel_rfl) (by kernel_rfl) (fun _ _ _ h => h) (Or.inl ⟨by rfl, ?_⟩) (by assumption) ?_
                    rotate_left
                    focus (intro wq hSq; (try dsimp only at hSq); go_simp; try with_reducible rfl)
                    try simp only [Act.put, List.setIfInBounds_toArray, List.set_cons_zero, List.set_cons_succ]
                    refine wpAnyH_take (i := 16) (oi := ⟨some 65, _, _, _, _, _⟩) (v := ?_) rfl (by kernel_rfl) (by kernel_rfl) (by kernel_rfl) (fun _ _ _ h => h) (Or.inl ⟨by rfl, ?_⟩) (by assumption) ?_
                    rotate_left
                    focus (intro wq hSq; (try dsimp only at hSq); go_simp; try with_reducible rfl)
                    try simp only [Act.put, List.setIfInBounds_toArray, List.set_cons_zero, List.set_cons_succ]
                    refine wpAnyH_take (i := 17) (oi := ⟨some 66, _, _, _, _, _⟩) (v := ?_) rfl (by kernel_rfl) (by kernel_rfl) (by kernel_rfl) (fun _ _ _ h => h) (Or.inl ⟨by rfl, ?_⟩) (by assumption) ?_
                    rotate_left
                    focus (intro wq hSq; (try dsimp only at hSq); go_simp; try with_reducible rfl)
                    try simp only [Act.put, List.setIfInBounds_toArray, List.set_cons_zero, List.set_cons_succ]
                    refine wpAnyH_take (i := 18) (oi := ⟨some 67, _, _, _, _, _⟩) (v := ?_) rfl (by kernel_rfl) (by kernel_rfl) (by kernel_rfl) (fun _ _ _ h => h) (Or.inl ⟨by rfl, ?_⟩) (by assumption) ?_
                    rotate_left
                    focus (intro wq hSq; (try dsimp only at hSq); go_simp; try with_reducible rfl)
                    try simp only [Act.put, List.setIfInBounds_toArray, List.set_cons_zero, List.set_cons_succ]
                    refine wpAnyH_take (i := 19) (oi := ⟨some 68, _, _, _, _, _⟩) (v := ?_) rfl (by kernel_rfl) (by kernel_rfl) (by kernel_rfl) (fun _ _ _ h => h) (Or.inl ⟨by rfl, ?_⟩) (by assumption) ?_
                    rotate_left
                    focus (intro wq hSq; (try dsimp only at hSq); go_simp; try with_reducible rfl)
                    try simp only [Act.put, List.setIfInBounds_toArray, List.set_cons_zero, List.set_cons_succ]
                    refine wpAnyH_take (i := 20) (oi := ⟨some 69, _, _, _, _, _⟩) (v := ?_) rfl (by kernel_rfl) (by kernel_rfl) (by kernel_rfl) (fun _ _ _ h => h) (Or.inl ⟨by rfl, ?_⟩) (by assumption) ?_
                    rotate_left
                    focus (intro wq hSq; (try dsimp only at hSq); go_simp; try with_reducible rfl)
                    try simp only [Act.put, List.setIfInBounds_toArray, List.set_cons_zero, List.set_cons_succ]
                    refine wpAnyH_take (i := 21) (oi := ⟨some 70, _, _, _, _, _⟩) (v := ?_) rfl (by kernel_rfl) (by kernel_rfl) (by kernel_rfl) (fun _ _ _ h => h) (Or.inl ⟨by rfl, ?_⟩) (by assumption) ?_
                    rotate_left
                    focus (intro wq hSq; (try dsimp only at hSq); go_simp; try with_reducible rfl)
                    try simp only [Act.put, List.setIfInBounds_toArray, List.set_cons_zero, List.set_cons_succ]
                    refine wpAnyH_take (i := 22) (oi := ⟨some 71, _, _, _, _, _⟩) (v := ?_) rfl (by kernel_rfl) (by kernel_rfl) (by kernel_rfl) (fun _ _ _ h => h) (Or.inl ⟨by rfl, ?_⟩) (by assumption) ?_
                    rotate_left
                    focus (intro wq hSq; (try dsimp only at hSq); go_simp; try with_reducible rfl)
                    try simp only [Act.put, List.setIfInBounds_toArray, List.set_cons_zero, List.set_cons_succ]
                    refine wpAnyH_take (i := 23) (oi := ⟨some 72, _, _, _, _, _⟩) (v := ?_) rfl (by kernel_rfl) (by kernel_rfl) (by kernel_rfl) (fun _ _ _ h => h) (Or.inl ⟨by rfl, ?_⟩) (by assumption) ?_
                    rotate_left
                    focus (intro wq hSq; (try dsimp only at hSq); go_simp; try with_reducible rfl)
                    try simp only [Act.put, List.setIfInBounds_toArray, List.set_cons_zero, List.set_cons_succ]
                    refine wpAnyH_take (i := 24) (oi := ⟨some 73, _, _, _, _, _⟩) (v := ?_) rfl (by kernel_rfl) (by kernel_rfl) (by kernel_rfl) (fun _ _ _ h => h) (Or.inl ⟨by rfl, ?_⟩) (by assumption) ?_
                    rotate_left
                    focus (intro wq hSq; (try dsimp only at hSq); go_simp; try with_reducible rfl)
                    try simp only [Act.put, List.setIfInBounds_toArray, List.set_cons_zero, List.set_cons_succ]
                    refine wpAnyH_ready (rs := [25]) (by kernel_rfl) (by simp) ?_
                    refine AllReadyH.cons (o := ⟨some 74, _, _, _, _, _⟩) rfl (fun K hK => ?_) AllReadyH.nil
                    go_simp
                    go_at_call 23
                    (with_reducible refine (hTo _ _ ?_).mono ?_)
                    assumption
                    rintro e W4 ⟨rfl, hN⟩
                    go_wp2_with fail
                    refine hK.out _ _ ?_ (fun hHeld => ?_)
                    focus (exact hN)
                    clear hK K
                    try simp only [Act.put, List.setIfInBounds_toArray, List.set_cons_zero, List.set_cons_succ]
                    refine wpAnyH_take (i := 26) (oi := ⟨some 75, _, _, _, _, _⟩) (v := ?_) rfl (by kernel_rfl) (by kernel_rfl) (by kernel_rfl) (fun _ _ _ h => h) (Or.inl ⟨by rfl, ?_⟩) (by assumption) ?_
                    rotate_left
                    focus (intro wq hSq; (try dsimp only at hSq); go_simp; try with_reducible rfl)
                    try simp only [Act.put, List.setIfInBounds_toArray, List.set_cons_zero, List.set_cons_succ]
                    refine wpAnyH_take (i := 27) (oi := ⟨some 76, _, _, _, _, _⟩) (v := ?_) rfl (by kernel_rfl) (by kernel_rfl) (by kernel_rfl) (fun _ _ _ h => h) (Or.inl ⟨by rfl, ?_⟩) (by assumption) ?_
                    rotate_left
                    focus (intro wq hSq; (try dsimp only at hSq); go_simp; try with_reducible rfl)
                    try simp only [Act.put, List.setIfInBounds_toArray, List.set_cons_zero, List.set_cons_succ]
                    refine wpAnyH_take (i := 28) (oi := ⟨some 77, _, _, _, _, _⟩) (v := ?_) rfl (by kernel_rfl) (by kernel_rfl) (by kernel_rfl) (fun _ _ _ h => h) (Or.inl ⟨by rfl, ?_⟩) (by assumption) ?_
                    rotate_left
                    focus (intro wq hSq; (try dsimp only at hSq); go_simp; try with_reducible rfl)
                    try simp only [Act.put, List.setIfInBounds_toArray, List.set_cons_zero, List.set_cons_succ]
                    refine wpAnyH_take (i := 29) (oi := ⟨some 78, _, _, _, _, _⟩) (v := ?_) rfl (by kernel_rfl) (by kernel_rfl) (by kernel_rfl) (fun _ _ _ h => h) (Or.inl ⟨by rfl, ?_⟩) (by assumption) ?_
                    rotate_left
                    focus (intro wq hSq; (try dsimp only at hSq); go_simp; try with_reducible rfl)
                    try simp only [Act.put, List.setIfInBounds_toArray, List.set_cons_zero, List.set_cons_succ]
                    refine wpAnyH_take (i := 30) (oi := ⟨some 79, _, _, _, _, _⟩) (v := ?_) rfl (by kernel_rfl) (by kernel_rfl) (by kernel_rfl) (fun _ _ _ h => h) (Or.inl ⟨by rfl, ?_⟩) (by assumption) ?_
                    rotate_left
                    focus (intro wq hSq; (try dsimp only at hSq); go_simp; try with_reducible rfl)
                    try simp only [Act.put, List.setIfInBounds_toArray, List.set_cons_zero, List.set_cons_succ]
                    refine wpAnyH_take (i := 31) (oi := ⟨some 80, _, _, _, _, _⟩) (v := ?_) rfl (by kernel_rfl) (by kernel_rfl) (by kernel_rfl) (fun _ _ _ h => h) (Or.inl ⟨by rfl, ?_⟩) (by assumption) ?_
                    rotate_left
                    focus (intro wq hSq; (try dsimp only at hSq); go_simp; try with_reducible rfl)
                    try simp only [Act.put, List.setIfInBounds_toArray, List.set_cons_zero, List.set_cons_succ]
                    refine wpAnyH_take (i := 32) (oi := ⟨some 81, _, _, _, _, _⟩) (v := ?_) rfl (by kernel_rfl) (by kernel_rfl) (by kernel_rfl) (fun _ _ _ h => h) (Or.inl ⟨by rfl, ?_⟩) (by assumption) ?_
                    rotate_left
                    focus (intro wq hSq; (try dsimp only at hSq); go_simp; try with_reducible rfl)
                    try simp only [Act.put, List.setIfInBounds_toArray, List.set_cons_zero, List.set_cons_succ]
                    refine wpAnyH_take (i := 33) (oi := ⟨some 82, _, _, _, _, _⟩) (v := ?_) rfl (by kernel_rfl) (by kernel_rfl) (by kernel_rfl) (fun _ _ _ h => h) (Or.inl ⟨by rfl, ?_⟩) (by assumption) ?_
                    rotate_left
                    focus (intro wq hSq; (try dsimp only at hSq); go_simp; try with_reducible rfl)
                    try simp only [Act.put, List.setIfInBounds_toArray, List.set_cons_zero, List.set_cons_succ]
                    refine wpAnyH_ready (rs := [34]) (by kernel_rfl) (by simp) ?_
                    refine AllReadyH.cons (o := ⟨some 83, _, _, _, _, _⟩) rfl (fun K hK => ?_) AllReadyH.nil
                    go_simp
                    go_at_call 24
                    (with_reducible refine (hOf _ ?_).mono ?_)
                    assumption
                    rintro e W5 ⟨⟨A5, c5, rfl⟩, hN⟩
                    go_wp2_with fail
                    refine hK.out _ _ ?_ (fun hHeld => ?_)
                    focus (exact hN)
                    clear hK K
                    try simp only [Act.put, List.setIfInBounds_toArray, List.set_cons_zero, List.set_cons_succ]
                    refine wpAnyH_take (i := 35) (oi := ⟨some 84, _, _, _, _, _⟩) (v := ?_) rfl (by kernel_rfl) (by kernel_rfl) (by kernel_rfl) (fun _ _ _ h => h) (Or.inl ⟨by rfl, ?_⟩) (by assumption) ?_
                    rotate_left
                    focus (intro wq hSq; (try dsimp only at hSq); go_simp; try with_reducible rfl)
                    try simp only [Act.put, List.setIfInBounds_toArray, List.set_cons_zero, List.set_cons_succ]
                    refine wpAnyH_take (i := 36) (oi := ⟨some 85, _, _, _, _, _⟩) (v := ?_) rfl (by kernel_rfl) (by kernel_rfl) (by kernel_rfl) (fun _ _ _ h => h) (Or.inl ⟨by rfl, ?_⟩) (by assumption) ?_
                    rotate_left
                    focus (intro wq hSq; (try dsimp only at hSq); go_simp; try with_reducible rfl)
                    try simp only [Act.put, List.setIfInBounds_toArray, List.set_cons_zero, List.set_cons_succ]
                    refine wpAnyH_take (i := 37) (oi := ⟨some 86, _, _, _, _, _⟩) (v := ?_) rfl (by kernel_rfl) (by kernel_rfl) (by kernel_rfl) (fun _ _ _ h => h) (Or.inl ⟨by rfl, ?_⟩) (by assumption) ?_
                    rotate_left
                    focus (intro wq hSq; (try dsimp only at hSq); go_simp; try with_reducible rfl)
                    try simp only [Act.put, List.setIfInBounds_toArray, List.set_cons_zero, List.set_cons_succ]
                    refine wpAnyH_done (by kernel_rfl) ?_ _
                    go_wp2_with fail
                    go_roundw
                    case rel => exact ⟨k + 1, by omega, by go_num, HO', hHeld.2.2.2⟩
                    case measure => simp [intOf]; omega
                · have HV : Hid (mayTB S B t = false) := may_one HE.out HX.out.1 HX.out.2 (by unfold okH; rw [show (⟨kx, ⟨lx, hx⟩, mx⟩ : HoldM).key = kx from rfl, show (⟨kx, ⟨lx, hx⟩, mx⟩ : HoldM).s = ⟨lx, hx⟩ from rfl, hr3.out]; simp)
                  clear HO
                  go_upto_region 8 with fail
                  refine wp_region_held_drew (S := (fun W => (W.cell? ⟨w.heap.size, 0, none⟩ = some (.int .i64 N) ∧ W.cell? ⟨w.heap.size, 1, none⟩ = some (.int .i64 S) ∧ W.cell? ⟨w.heap.size, 2, none⟩ = some (.int .i64 B) ∧ W.cell? ⟨w.heap.size, 3, none⟩ = some (.int .i64 P) ∧ W.cell? ⟨w.heap.size, 4, none⟩ = some (.int .i64 J) ∧ W.cell? ⟨w.heap.size, 5, none⟩ = some (.int .i64 L) ∧ W.cell? ⟨w.heap.size, 6, none⟩ = some (.int .i64 E) ∧ W.cell? ⟨w.heap.size, 7, none⟩ = some (.int .i64 T)) ∧ (W.cell? ⟨w.heap.size + 1, 0, none⟩ = some (.slice aS nS cS) ∧ W.cell? ⟨w.heap.size + 1, 1, none⟩ = some (.slice aH nH cH) ∧ W.cell? ⟨w.heap.size + 1, 2, none⟩ = some (.slice aQ nQ cQ)) ∧ (W.cell? (ad.add (k * 4)) = some (.int .i64 kx) ∧ W.cell? ⟨(ad.add (k * 4)).block, (ad.add (k * 4)).off + 1, none⟩ = some (.int .i64 lx) ∧ W.cell? ⟨(ad.add (k * 4)).block, (ad.add (k * 4)).off + 2, none⟩ = some (.int .i64 hx) ∧ W.cell? ⟨(ad.add (k * 4)).block, (ad.add (k * 4)).off + 3, none⟩ = some (.int .i8 mx)) ∧ Below V3.heap.size V3 W)) (by kernel_rfl) ?_ (fun hHeld => ?_)
                  focus (exact hS _ hb3.drew)
                  refine wpAnyH_take (i := 0) (oi := ⟨some 49, _, _, _, _, _⟩) (v := ?_) rfl (by kernel_rfl) (by kernel_rfl) (by kernel_rfl) (fun _ _ _ h => h) (Or.inl ⟨by rfl, ?_⟩) (by assumption) ?_
                  rotate_left
                  focus (intro wq hSq; (try dsimp only at hSq); go_simp; try with_reducible rfl)
                  try simp only [Act.put, List.setIfInBounds_toArray, List.set_cons_zero, List.set_cons_succ]
                  refine wpAnyH_take (i := 1) (oi := ⟨some 50, _, _, _, _, _⟩) (v := ?_) rfl (by kernel_rfl) (by kernel_rfl) (by kernel_rfl) (fun _ _ _ h => h) (Or.inl ⟨by rfl, ?_⟩) (by assumption) ?_
                  rotate_left
                  focus (intro wq hSq; (try dsimp only at hSq); go_simp; try with_reducible rfl)
                  try simp only [Act.put, List.setIfInBounds_toArray, List.set_cons_zero, List.set_cons_succ]
                  refine wpAnyH_take (i := 2) (oi := ⟨some 51, _, _, _, _, _⟩) (v := ?_) rfl (by kernel_rfl) (by kernel_rfl) (by kernel_rfl) (fun _ _ _ h => h) (Or.inl ⟨by rfl, ?_⟩) (by assumption) ?_
                  rotate_left
                  focus (intro wq hSq; (try dsimp only at hSq); go_simp; try with_reducible rfl)
                  try simp only [Act.put, List.setIfInBounds_toArray, List.set_cons_zero, List.set_cons_succ]
                  refine wpAnyH_take (i := 3) (oi := ⟨some 52, _, _, _, _, _⟩) (v := ?_) rfl (by kernel_rfl) (by kernel_rfl) (by kernel_rfl) (fun _ _ _ h => h) (Or.inl ⟨by rfl, ?_⟩) (by assumption) ?_
                  rotate_left
                  focus (intro wq hSq; (try dsimp only at hSq); go_simp; try with_reducible rfl)
                  try simp only [Act.put, List.setIfInBounds_toArray, List.set_cons_zero, List.set_cons_succ]
                  refine wpAnyH_take (i := 4) (oi := ⟨some 53, _, _, _, _, _⟩) (v := ?_) rfl (by kernel_rfl) (by kernel_rfl) (by kernel_rfl) (fun _ _ _ h => h) (Or.inl ⟨by rfl, ?_⟩) (by assumption) ?_
                  rotate_left
                  focus (intro wq hSq; (try dsimp only at hSq); go_simp; try with_reducible rfl)
                  try simp only [Act.put, List.setIfInBounds_toArray, List.set_cons_zero, List.set_cons_succ]
                  refine wpAnyH_take (i := 5) (oi := ⟨some 54, _, _, _, _, _⟩) (v := ?_) rfl (by kernel_rfl) (by kernel_rfl) (by kernel_rfl) (fun _ _ _ h => h) (Or.inl ⟨by rfl, ?_⟩) (by assumption) ?_
                  rotate_left
                  focus (intro wq hSq; (try dsimp only at hSq); go_simp; try with_reducible rfl)
                  try simp only [Act.put, List.setIfInBounds_toArray, List.set_cons_zero, List.set_cons_succ]
                  refine wpAnyH_take (i := 6) (oi := ⟨some 55, _, _, _, _, _⟩) (v := ?_) rfl (by kernel_rfl) (by kernel_rfl) (by kernel_rfl) (fun _ _ _ h => h) (Or.inl ⟨by rfl, ?_⟩) (by assumption) ?_
                  rotate_left
                  focus (intro wq hSq; (try dsimp only at hSq); go_simp; try with_reducible rfl)
                  try simp only [Act.put, List.setIfInBounds_toArray, List.set_cons_zero, List.set_cons_succ]
                  refine wpAnyH_take (i := 7) (oi := ⟨some 56, _, _, _, _, _⟩) (v := ?_) rfl (by kernel_rfl) (by kernel_rfl) (by kernel_rfl) (fun _ _ _ h => h) (Or.inl ⟨by rfl, ?_⟩) (by assumption) ?_
                  rotate_left
                  focus (intro wq hSq; (try dsimp only at hSq); go_simp; try with_reducible rfl)
                  try simp only [Act.put, List.setIfInBounds_toArray, List.set_cons_zero, List.set_cons_succ]
                  refine wpAnyH_ready (rs := [8]) (by kernel_rfl) (by simp) ?_
                  refine AllReadyH.cons (o := ⟨some 57, _, _, _, _, _⟩) rfl (fun K hK => ?_) AllReadyH.nil
                  go_simp
                  go_at_call 22
                  (with_reducible refine (hHo _ ?_).mono ?_)
                  assumption
                  rintro e W2 ⟨rfl, hN⟩
                  go_wp2_with fail
                  refine hK.out _ _ ?_ (fun hHeld => ?_)
                  focus (exact hN)
                  clear hK K
                  try simp only [Act.put, List.setIfInBounds_toArray, List.set_cons_zero, List.set_cons_succ]
                  refine wpAnyH_take (i := 9) (oi := ⟨some 58, _, _, _, _, _⟩) (v := ?_) rfl (by kernel_rfl) (by kernel_rfl) (by kernel_rfl) (fun _ _ _ h => h) (Or.inl ⟨by rfl, ?_⟩) (by assumption) ?_
                  rotate_left
                  focus (intro wq hSq; (try dsimp only at hSq); go_simp; try with_reducible rfl)
                  try simp only [Act.put, List.setIfInBounds_toArray, List.set_cons_zero, List.set_cons_succ]
                  refine wpAnyH_take (i := 10) (oi := ⟨some 59, _, _, _, _, _⟩) (v := ?_) rfl (by kernel_rfl) (by kernel_rfl) (by kernel_rfl) (fun _ _ _ h => h) (Or.inl ⟨by rfl, ?_⟩) (by assumption) ?_
                  rotate_left
                  focus (intro wq hSq; (try dsimp only at hSq); go_simp; try with_reducible rfl)
                  try simp only [Act.put, List.setIfInBounds_toArray, List.set_cons_zero, List.set_cons_succ]
                  refine wpAnyH_take (i := 11) (oi := ⟨some 60, _, _, _, _, _⟩) (v := ?_) rfl (by kernel_rfl) (by kernel_rfl) (by kernel_rfl) (fun _ _ _ h => h) (Or.inl ⟨by rfl, ?_⟩) (by assumption) ?_
                  rotate_left
                  focus (intro wq hSq; (try dsimp only at hSq); go_simp; try with_reducible rfl)
                  try simp only [Act.put, List.setIfInBounds_toArray, List.set_cons_zero, List.set_cons_succ]
                  refine wpAnyH_take (i := 12) (oi := ⟨some 61, _, _, _, _, _⟩) (v := ?_) rfl (by kernel_rfl) (by kernel_rfl) (by kernel_rfl) (fun _ _ _ h => h) (Or.inl ⟨by rfl, ?_⟩) (by assumption) ?_
                  rotate_left
                  focus (intro wq hSq; (try dsimp only at hSq); go_simp; try with_reducible rfl)
                  try simp only [Act.put, List.setIfInBounds_toArray, List.set_cons_zero, List.set_cons_succ]
                  refine wpAnyH_take (i := 13) (oi := ⟨some 62, _, _, _, _, _⟩) (v := ?_) rfl (by kernel_rfl) (by kernel_rfl) (by kernel_rfl) (fun _ _ _ h => h) (Or.inl ⟨by rfl, ?_⟩) (by assumption) ?_
                  rotate_left
                  focus (intro wq hSq; (try dsimp only at hSq); go_simp; try with_reducible rfl)
                  try simp only [Act.put, List.setIfInBounds_toArray, List.set_cons_zero, List.set_cons_succ]
                  refine wpAnyH_take (i := 14) (oi := ⟨some 63, _, _, _, _, _⟩) (v := ?_) rfl (by kernel_rfl) (by kernel_rfl) (by kernel_rfl) (fun _ _ _ h => h) (Or.inl ⟨by rfl, ?_⟩) (by assumption) ?_
                  rotate_left
                  focus (intro wq hSq; (try dsimp only at hSq); go_simp; try with_reducible rfl)
                  try simp only [Act.put, List.setIfInBounds_toArray, List.set_cons_zero, List.set_cons_succ]
                  refine wpAnyH_take (i := 15) (oi := ⟨some 64, _, _, _, _, _⟩) (v := ?_) rfl (by kernel_rfl) (by kernel_rfl) (by kernel_rfl) (fun _ _ _ h => h) (Or.inl ⟨by rfl, ?_⟩) (by assumption) ?_
                  rotate_left
                  focus (intro wq hSq; (try dsimp only at hSq); go_simp; try with_reducible rfl)
                  try simp only [Act.put, List.setIfInBounds_toArray, List.set_cons_zero, List.set_cons_succ]
                  refine wpAnyH_take (i := 16) (oi := ⟨some 65, _, _, _, _, _⟩) (v := ?_) rfl (by kernel_rfl) (by kernel_rfl) (by kernel_rfl) (fun _ _ _ h => h) (Or.inl ⟨by rfl, ?_⟩) (by assumption) ?_
                  rotate_left
                  focus (intro wq hSq; (try dsimp only at hSq); go_simp; try with_reducible rfl)
                  try simp only [Act.put, List.setIfInBounds_toArray, List.set_cons_zero, List.set_cons_succ]
                  refine wpAnyH_take (i := 17) (oi := ⟨some 66, _, _, _, _, _⟩) (v := ?_) rfl (by kernel_rfl) (by kernel_rfl) (by kernel_rfl) (fun _ _ _ h => h) (Or.inl ⟨by rfl, ?_⟩) (by assumption) ?_
                  rotate_left
                  focus (intro wq hSq; (try dsimp only at hSq); go_simp; try with_reducible rfl)
                  try simp only [Act.put, List.setIfInBounds_toArray, List.set_cons_zero, List.set_cons_succ]
                  refine wpAnyH_take (i := 18) (oi := ⟨some 67, _, _, _, _, _⟩) (v := ?_) rfl (by kernel_rfl) (by kernel_rfl) (by kernel_rfl) (fun _ _ _ h => h) (Or.inl ⟨by rfl, ?_⟩) (by assumption) ?_
                  rotate_left
                  focus (intro wq hSq; (try dsimp only at hSq); go_simp; try with_reducible rfl)
                  try simp only [Act.put, List.setIfInBounds_toArray, List.set_cons_zero, List.set_cons_succ]
                  refine wpAnyH_take (i := 19) (oi := ⟨some 68, _, _, _, _, _⟩) (v := ?_) rfl (by kernel_rfl) (by kernel_rfl) (by kernel_rfl) (fun _ _ _ h => h) (Or.inl ⟨by rfl, ?_⟩) (by assumption) ?_
                  rotate_left
                  focus (intro wq hSq; (try dsimp only at hSq); go_simp; try with_reducible rfl)
                  try simp only [Act.put, List.setIfInBounds_toArray, List.set_cons_zero, List.set_cons_succ]
                  refine wpAnyH_take (i := 20) (oi := ⟨some 69, _, _, _, _, _⟩) (v := ?_) rfl (by kernel_rfl) (by kernel_rfl) (by kernel_rfl) (fun _ _ _ h => h) (Or.inl ⟨by rfl, ?_⟩) (by assumption) ?_
                  rotate_left
                  focus (intro wq hSq; (try dsimp only at hSq); go_simp; try with_reducible rfl)
                  try simp only [Act.put, List.setIfInBounds_toArray, List.set_cons_zero, List.set_cons_succ]
                  refine wpAnyH_take (i := 21) (oi := ⟨some 70, _, _, _, _, _⟩) (v := ?_) rfl (by kernel_rfl) (by kernel_rfl) (by kernel_rfl) (fun _ _ _ h => h) (Or.inl ⟨by rfl, ?_⟩) (by assumption) ?_
                  rotate_left
                  focus (intro wq hSq; (try dsimp only at hSq); go_simp; try with_reducible rfl)
                  try simp only [Act.put, List.setIfInBounds_toArray, List.set_cons_zero, List.set_cons_succ]
                  refine wpAnyH_take (i := 22) (oi := ⟨some 71, _, _, _, _, _⟩) (v := ?_) rfl (by kernel_rfl) (by kernel_rfl) (by kernel_rfl) (fun _ _ _ h => h) (Or.inl ⟨by rfl, ?_⟩) (by assumption) ?_
                  rotate_left
                  focus (intro wq hSq; (try dsimp only at hSq); go_simp; try with_reducible rfl)
                  try simp only [Act.put, List.setIfInBounds_toArray, List.set_cons_zero, List.set_cons_succ]
                  refine wpAnyH_take (i := 23) (oi := ⟨some 72, _, _, _, _, _⟩) (v := ?_) rfl (by kernel_rfl) (by kernel_rfl) (by kernel_rfl) (fun _ _ _ h => h) (Or.inl ⟨by rfl, ?_⟩) (by assumption) ?_
                  rotate_left
                  focus (intro wq hSq; (try dsimp only at hSq); go_simp; try with_reducible rfl)
                  try simp only [Act.put, List.setIfInBounds_toArray, List.set_cons_zero, List.set_cons_succ]
                  refine wpAnyH_take (i := 24) (oi := ⟨some 73, _, _, _, _, _⟩) (v := ?_) rfl (by kernel_rfl) (by kernel_rfl) (by kernel_rfl) (fun _ _ _ h => h) (Or.inl ⟨by rfl, ?_⟩) (by assumption) ?_
                  rotate_left
                  focus (intro wq hSq; (try dsimp only at hSq); go_simp; try with_reducible rfl)
                  try simp only [Act.put, List.setIfInBounds_toArray, List.set_cons_zero, List.set_cons_succ]
                  refine wpAnyH_ready (rs := [25]) (by kernel_rfl) (by simp) ?_
                  refine AllReadyH.cons (o := ⟨some 74, _, _, _, _, _⟩) rfl (fun K hK => ?_) AllReadyH.nil
                  go_simp
                  go_at_call 23
                  (with_reducible refine (hTo _ _ ?_).mono ?_)
                  assumption
                  rintro e W4 ⟨rfl, hN⟩
                  go_wp2_with fail
                  refine hK.out _ _ ?_ (fun hHeld => ?_)
                  focus (exact hN)
                  clear hK K
                  try simp only [Act.put, List.setIfInBounds_toArray, List.set_cons_zero, List.set_cons_succ]
                  refine wpAnyH_take (i := 26) (oi := ⟨some 75, _, _, _, _, _⟩) (v := ?_) rfl (by kernel_rfl) (by kernel_rfl) (by kernel_rfl) (fun _ _ _ h => h) (Or.inl ⟨by rfl, ?_⟩) (by assumption) ?_
                  rotate_left
                  focus (intro wq hSq; (try dsimp only at hSq); go_simp; try with_reducible rfl)
                  try simp only [Act.put, List.setIfInBounds_toArray, List.set_cons_zero, List.set_cons_succ]
                  refine wpAnyH_take (i := 27) (oi := ⟨some 76, _, _, _, _, _⟩) (v := ?_) rfl (by kernel_rfl) (by kernel_rfl) (by kernel_rfl) (fun _ _ _ h => h) (Or.inl ⟨by rfl, ?_⟩) (by assumption) ?_
                  rotate_left
                  focus (intro wq hSq; (try dsimp only at hSq); go_simp; try with_reducible rfl)
                  try simp only [Act.put, List.setIfInBounds_toArray, List.set_cons_zero, List.set_cons_succ]
                  refine wpAnyH_take (i := 28) (oi := ⟨some 77, _, _, _, _, _⟩) (v := undef) rfl (by kernel_rfl) (by kernel_rfl) (by kernel_rfl) (fun _ _ _ h => h) (Or.inr ⟨by rfl, rfl⟩) (by assumption) ?_
                  try simp only [Act.put, List.setIfInBounds_toArray, List.set_cons_zero, List.set_cons_succ]
                  refine wpAnyH_take (i := 29) (oi := ⟨some 78, _, _, _, _, _⟩) (v := undef) rfl (by kernel_rfl) (by kernel_rfl) (by kernel_rfl) (fun _ _ _ h => h) (Or.inr ⟨by rfl, rfl⟩) (by assumption) ?_
                  try simp only [Act.put, List.setIfInBounds_toArray, List.set_cons_zero, List.set_cons_succ]
                  refine wpAnyH_take (i := 30) (oi := ⟨some 79, _, _, _, _, _⟩) (v := undef) rfl (by kernel_rfl) (by kernel_rfl) (by kernel_rfl) (fun _ _ _ h => h) (Or.inr ⟨by rfl, rfl⟩) (by assumption) ?_
                  try simp only [Act.put, List.setIfInBounds_toArray, List.set_cons_zero, List.set_cons_succ]
                  refine wpAnyH_take (i := 31) (oi := ⟨some 80, _, _, _, _, _⟩) (v := undef) rfl (by kernel_rfl) (by kernel_rfl) (by kernel_rfl) (fun _ _ _ h => h) (Or.inr ⟨by rfl, rfl⟩) (by assumption) ?_
                  try simp only [Act.put, List.setIfInBounds_toArray, List.set_cons_zero, List.set_cons_succ]
                  refine wpAnyH_take (i := 32) (oi := ⟨some 81, _, _, _, _, _⟩) (v := undef) rfl (by kernel_rfl) (by kernel_rfl) (by kernel_rfl) (fun _ _ _ h => h) (Or.inr ⟨by rfl, rfl⟩) (by assumption) ?_
                  try simp only [Act.put, List.setIfInBounds_toArray, List.set_cons_zero, List.set_cons_succ]
                  refine wpAnyH_take (i := 33) (oi := ⟨some 82, _, _, _, _, _⟩) (v := undef) rfl (by kernel_rfl) (by kernel_rfl) (by kernel_rfl) (fun _ _ _ h => h) (Or.inr ⟨by rfl, rfl⟩) (by assumption) ?_
                  try simp only [Act.put, List.setIfInBounds_toArray, List.set_cons_zero, List.set_cons_succ]
                  refine wpAnyH_take (i := 34) (oi := ⟨some 83, _, _, _, _, _⟩) (v := undef) rfl (by kernel_rfl) (by kernel_rfl) (by kernel_rfl) (fun _ _ _ h => h) (Or.inr ⟨by rfl, rfl⟩) (by assumption) ?_
                  try simp only [Act.put, List.setIfInBounds_toArray, List.set_cons_zero, List.set_cons_succ]
                  refine wpAnyH_take (i := 35) (oi := ⟨some 84, _, _, _, _, _⟩) (v := undef) rfl (by kernel_rfl) (by kernel_rfl) (by kernel_rfl) (fun _ _ _ h => h) (Or.inr ⟨by rfl, rfl⟩) (by assumption) ?_
                  try simp only [Act.put, List.setIfInBounds_toArray, List.set_cons_zero, List.set_cons_succ]
                  refine wpAnyH_take (i := 36) (oi := ⟨some 85, _, _, _, _, _⟩) (v := undef) rfl (by kernel_rfl) (by kernel_rfl) (by kernel_rfl) (fun _ _ _ h => h) (Or.inr ⟨by rfl, rfl⟩) (by assumption) ?_
                  try simp only [Act.put, List.setIfInBounds_toArray, List.set_cons_zero, List.set_cons_succ]
                  refine wpAnyH_take (i := 37) (oi := ⟨some 86, _, _, _, _, _⟩) (v := ?_) rfl (by kernel_rfl) (by kernel_rfl) (by kernel_rfl) (fun _ _ _ h => h) (Or.inl ⟨by rfl, ?_⟩) (by assumption) ?_
                  rotate_left
                  focus (intro wq hSq; (try dsimp only at hSq); go_simp; try with_reducible rfl)
                  try simp only [Act.put, List.setIfInBounds_toArray, List.set_cons_zero, List.set_cons_succ]
                  refine wpAnyH_done (by kernel_rfl) ?_ _
                  go_wp2_with fail
                  go_ret
                  exact ⟨by rw [HV.out] <;> rfl, below_then hbw (below_then upV3 hHeld.2.2.2)⟩
          · have hkn : k = n := by omega
            obtain ⟨mq, hmq⟩ : ∃ r, Hid ((grantT t).qu.length = r) := ⟨_, rfl⟩
            have HV : Hid (mayTB S B t = ((mq : Int) == (nQ : Int))) := by
              show _ = _
              rw [may_rest HE.out HLen.out (by rw [HLS.out]; exact HNS.out) HSl.out HAl.out (by rw [← hkn]; exact HO.out), hmq.out, HLQ.out]
            have hS : ∀ W, Below V3.heap.size V3 W → (W.cell? ⟨w.heap.size + 1, 0, none⟩ = some (.slice aS nS cS) ∧ W.cell? ⟨w.heap.size + 1, 1, none⟩ = some (.slice aH nH cH) ∧ W.cell? ⟨w.heap.size + 1, 2, none⟩ = some (.slice aQ nQ cQ)) ∧ Below V3.heap.size V3 W := fun W h => ⟨tab_cells (P3.below h P3.lt), h⟩
            have hG : ∀ W, (W.cell? ⟨w.heap.size + 1, 0, none⟩ = some (.slice aS nS cS) ∧ W.cell? ⟨w.heap.size + 1, 1, none⟩ = some (.slice aH nH cH) ∧ W.cell? ⟨w.heap.size + 1, 2, none⟩ = some (.slice aQ nQ cQ)) ∧ Below V3.heap.size V3 W → Calls Try.prog 25 #[.agg #[.slice aS nS cS, .slice aH nH cH, .slice aQ nQ cQ]] W fun e W => (∃ a n1 d b n2 f A c, e = .returned (.agg #[.slice a n1 d, .slice b n2 f, .slice A mq c])) ∧ (W.cell? ⟨w.heap.size + 1, 0, none⟩ = some (.slice aS nS cS) ∧ W.cell? ⟨w.heap.size + 1, 1, none⟩ = some (.slice aH nH cH) ∧ W.cell? ⟨w.heap.size + 1, 2, none⟩ = some (.slice aQ nQ cQ)) ∧ Below V3.heap.size V3 W := fun W h => (hGrant.out W (below_then upV3 h.2)).mono (by
              rintro e w' ⟨uS, uH, uQ, rfl, O, hb⟩
              obtain ⟨A, c, e, _, _⟩ := ow_shape O.q
              obtain ⟨a, d, e2, _, _⟩ := ow_shape O.s
              obtain ⟨b, f, e3, _, _⟩ := ow_shape O.h
              subst e e2 e3
              exact ⟨⟨a, _, d, b, _, f, A, c, by rw [hmq.out]⟩, hS _ (below_then h.2 hb)⟩)
            have hD := hS _ hb.drew
            have hfd : ∀ (a : Option Addr) (n1 d : Nat) (b : Option Addr) (n2 f : Nat) (A : Option Addr) (c : Nat) (W : World), (Instr.field 29 (.agg #[.slice a n1 d, .slice b n2 f, .slice A mq c]) 2).run Try.prog W = .ok (.slice A mq c) W := fun _ _ _ _ _ _ _ _ _ => by kernel_rfl
            clear HO hlt
            go_upto_region 10 with fail
            go_region_held3 (fun W => (W.cell? ⟨w.heap.size + 1, 0, none⟩ = some (.slice aS nS cS) ∧ W.cell? ⟨w.heap.size + 1, 1, none⟩ = some (.slice aH nH cH) ∧ W.cell? ⟨w.heap.size + 1, 2, none⟩ = some (.slice aQ nQ cQ)) ∧ Below V3.heap.size V3 W) (first | assumption)
              ((go_at_call 25; (with_reducible refine (hG _ ?_).mono ?_); assumption; rintro e W1 ⟨⟨a1, n1, d1, b1, n2, f1, A1', c1', rfl⟩, hN⟩))
            have hb3 := hN.2
            go_wp2_with fail
            go_ret
            exact ⟨by rw [HV.out] <;> rfl, below_then hbw (below_then upV3 hb3)⟩
  · have HV : Hid (mayTB S B t = false) := may_len (by rw [HLS.out]; exact hNS)
    have z0 : ((nS : Int) != S) = true := by simp [hNS]
    clear hNS
    go_wp2_with fail
    rw [← hW]
    clear hW
    go_ret
    exact ⟨by rw [HV.out] <;> rfl, hbw⟩

end Go.Proofs.Ytjknloaolennoaa
