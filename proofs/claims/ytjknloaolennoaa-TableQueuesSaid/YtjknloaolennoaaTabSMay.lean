/-
  table: may the slots be (slots that may be): by contract.
-/
import Derived.Test.YtjknloaolennoaaTabMeth
import Derived.Maps.Own
import Derived.Maps.OwnOps
import Derived.Maps.Views
namespace Go.Proofs.Ytjknloaolennoaa
open Go.RowKit Go.Maps Go.ChangeMaps
set_option linter.unusedVariables false
set_option linter.unusedSimpArgs false

theorem lawI : Keyed Try.prog 3 := int_keyed Try.underlying3
theorem zeroI (w : World) : (zeroValue 3).run Try.prog w = .ok (.int .i64 0) w := by kernel_rfl
/-- Keys that are numbers of an int. -/
def KeysOk (sl : List SlotM) : Prop := ∀ x ∈ sl, x.key ≤ 1099511627776
theorem wf_key {k : Int} (h0 : 0 ≤ k) (h1 : k ≤ 1099511627776) : (Lit.int .i64 k).wf = true := by
  have h2 : IntKind.i64.min = -9223372036854775808 := rfl
  have h3 : IntKind.i64.max = 9223372036854775807 := rfl
  simp only [Lit.wf, Bool.and_eq_true, decide_eq_true_eq]
  omega
/-- What the map tells of keys that were not met among the first k slots: nothing. -/
def SeenNo (sl : List SlotM) (k : Nat) (D : DataW Unit) : Prop := IsMap D ∧ ∀ x : Int, (∀ (j : Nat) (hj : j < sl.length), j < k → (sl[j]).key ≠ x) → D.atKey (.int .i64 x) (.lit (.int .i64 0)) = .lit (.int .i64 0)
theorem seen_start (sl : List SlotM) : SeenNo sl 0 (.map []) := ⟨isMap_empty, fun x _ => rfl⟩
theorem seen_next {sl : List SlotM} {k : Nat} {D : DataW Unit} (h : SeenNo sl k D) (hk : k < sl.length) {kx : Int} (e : (sl[k]).key = kx) (d : DataW Unit) : SeenNo sl (k + 1) (D.put (.int .i64 kx) d) := by
  refine ⟨h.1.put _ _, fun x hx => ?_⟩
  have hne : x ≠ kx := fun e2 => hx k hk (by omega) (by rw [e, e2])
  rw [atKey_put_other (by intro e3; injection e3 with _ e3; exact hne e3)]
  exact h.2 x fun j hj hjk => hx j hj (by omega)
theorem seen_not {sl : List SlotM} (hs : SlotsOk sl) {k : Nat} {D : DataW Unit} (h : SeenNo sl k D) (hk : k < sl.length) {kx : Int} (e : (sl[k]).key = kx) (hne : kx ≠ 0) : D.atKey (.int .i64 kx) (.lit (.int .i64 0)) = .lit (.int .i64 0) :=
  h.2 kx fun j hj hjk ej => by
    have := hs.one j k hj hk (by rw [ej, e]) (by rw [ej]; exact hne)
    omega

set_option maxRecDepth 100000 in
set_option maxHeartbeats 4000000 in
theorem tslotsMay_any (aS : Option Addr) (nS cS : Nat) (l : List SlotM) (vH vQ : Value) (w : World) (hS : LiesS w w.heap.size aS nS l) (hn : nS ≤ 1099511627776) (hok : SlotsOk l) (hkeys : KeysOk l) :
    Calls Try.prog 39 #[.agg #[.slice aS nS cS, vH, vQ]] w fun e w' => e = .returned (.bool true) ∧ Below w.heap.size w w' := by
  have HL : Hid (l.length = nS) := hS.1
  have HOK := Lib.hid hok
  have HKS := Lib.hid hkeys
  have HA : Hid (∀ W, Below w.heap.size w W → LiesS W W.heap.size aS nS l) := fun W h => hS.below h
  obtain ⟨W0, hW⟩ : ∃ W0, W0 = (w.alloc (.cells #[.slice aS nS cS, vH, vQ] 56)).alloc (.map #[] 0) := ⟨_, rfl⟩
  have b0 : Below w.heap.size w W0 := hW ▸ two_new _ _ _
  have p0 : Blk W0 w.heap.size #[.slice aS nS cS, vH, vQ] 56 := hW ▸ (Blk.new w _ _).alloc _
  have hown0 := World.ownsMap_made (H := Unit) (w.alloc (.cells #[.slice aS nS cS, vH, vQ] 56)) Try.prog 3 (plainElem Try.prog 3)
  rw [← hW, show (w.alloc (.cells #[.slice aS nS cS, vH, vQ] 56)).heap.size = w.heap.size + 1 by simp] at hown0
  have hmm := @run_makeMap Try.prog
  clear hS hok hkeys
  go_enter Try.func39, Try.ntmps39
  go_upto_region 2 with fail
  rw [← hW]
  clear hW hmm
  obtain ⟨b, hbe⟩ : ∃ b, w.heap.size + 1 = b := ⟨_, rfl⟩
  rw [hbe] at hown0 ⊢
  have hwb : w.heap.size ≤ b := by omega
  clear hbe
  obtain ⟨t0, t1, t2⟩ := tab_cells p0
  have hl0 := p0.lt
  go_wp2_with fail
  go_loopw [11] (fun i wr => ∃ (k : Nat) (D : DataW Unit), k ≤ nS ∧ i = .int .i64 k ∧ wr.ownsMap Try.prog 3 (plainElem Try.prog 3) b k D ∧ Hid (SeenNo l k D) ∧ Below w.heap.size w wr) (fun i _ => nS - (intOf i).toNat)
  case atStart => exact ⟨0, _, Nat.zero_le _, rfl, hown0, seen_start l, b0⟩
  case round =>
    clear hown0 b0 t0 t1 t2 hl0 p0
    obtain ⟨k, D, hk, rfl, hown, HD, hb⟩ := hrel
    by_cases hlt : k < nS
    · have hkl : k < l.length := by rw [HL.out]; exact hlt
      obtain ⟨ad, e1, had, c0, c1⟩ := slo_cells (HA.out _ hb) hlt hkl
      subst e1
      obtain ⟨kx, cx, hx⟩ : ∃ kx cx, l[k] = (⟨kx, cx⟩ : SlotM) := ⟨_, _, rfl⟩
      have hkx : (l[k]).key = kx := by rw [hx]
      have hpos := (HOK.out.k0 _ (List.getElem_mem hkl)).1
      have hmax := HKS.out _ (List.getElem_mem hkl)
      have hfree := HOK.out.free _ (List.getElem_mem hkl)
      rw [hx] at c0 c1 hpos hmax hfree
      have hwf := Lib.hid (wf_key hpos hmax)
      have hkey := Lib.hid (keyOf_int_mk Try.underlying3 hwf.out : keyOf Try.prog 3 (.int .i64 kx) = some (.int .i64 kx))
      have hnext := fun d => seen_next HD.out hkl hkx d
      have HNX := Lib.hid hnext
      have hnot : Hid (kx ≠ 0 → D.atKey (.int .i64 kx) (.lit (.int .i64 0)) = .lit (.int .i64 0)) := fun hne => seen_not HOK.out HD.out hkl hkx hne
      have hownA := hown.alloc (.cells #[.int .i64 kx, .int .i64 cx] 48)
      have hlb := hown.lt
      have bx := one_new wr (.cells #[.int .i64 kx, .int .i64 cx] 48)
      have hbA := below_then hb bx
      have px := Blk.new wr #[.int .i64 kx, .int .i64 cx] 48
      simp only at hpos hmax hfree
      have hmapD := Lib.hid HD.out.1
      clear hx hkx hkl hnext hown HD
      rcases Int.lt_or_eq_of_le hpos with hgt | heq
      · have z0 : (kx == 0) = false := by rw [beq_eq_false_iff_ne]; omega
        have z1 : decide ((0 : Int) < kx) = true := decide_eq_true hgt
        have hz := Lib.hid (hnot.out (by omega))
        clear hnot hfree hpos hmax
        go_upto_region 8 with (first
          | (at_lookup; refine wpList_lookup_own_int _ rfl _ _ 81 rfl 3 3 .i64 lawI Try.underlying81 Try.underlying3 (zeroI _) b _ _ rfl hownA _ _ rfl hkey.out ?_; intro c hat hwc; obtain rfl : c = 0 := by (have h1 := hz.out.symm.trans hat; injection h1 with h1; injection h1 with _ h1; exact h1.symm))
          | (at_mapUpdate; refine wpList_mapUpdate_own _ rfl _ _ _ 81 rfl 3 3 lawI Try.underlying81 _ b _ _ rfl hownA (by unfold maxLen; omega) _ _ _ rfl rfl hkey.out _ [] (plainElem_int Try.underlying3 (by decide : (Lit.int .i64 1).wf = true)) ?_; intro w1 hown1 hgrow1))
        have px1 : Blk w1 wr.heap.size #[.int .i64 kx, .int .i64 cx] 48 := (hgrow1.block _ px.lt (by intro h; injection h with h; omega)).trans px
        have hb1 := hbA.grown hgrow1 hbA.size (fun j hj => by cases hj; exact hwb)
        have hat1 := Lib.hid (atKey_put_same hmapD.out (by trivial : WideAt.IsKeyLit (.int .i64 kx)) (.lit (.int .i64 1)) (.lit (.int .i64 0)))
        have y0 := px1.cell 0 _ rfl
        have hlx := px1.lt
        clear px hbA bx hgrow1 hownA hlb c0 c1 had hb hat
        try simp only [Act.put, List.setIfInBounds_toArray, List.set_cons_zero, List.set_cons_succ]
        obtain ⟨c, hrun, hat, _⟩ := hown1.lookup_int lawI Try.underlying81 Try.underlying3 (zeroI _) hkey.out
        obtain rfl : c = 1 := by
          have h1 := hat1.out.symm.trans hat
          injection h1 with h1
          injection h1 with _ h1
          exact h1.symm
        clear hat
        go_wp2_with fail
        go_roundw
        case rel => exact ⟨k + 1, _, by omega, by go_num, hown1, HNX.out _, hb1⟩
        case measure => simp [intOf]; omega
      · obtain rfl : kx = 0 := heq.symm
        obtain rfl : cx = 0 := hfree rfl
        clear hnot hfree hpos hmax
        go_upto_region 8 with (first
          | (at_lookup; refine wpList_lookup_own_int _ rfl _ _ 81 rfl 3 3 .i64 lawI Try.underlying81 Try.underlying3 (zeroI _) b _ _ rfl hownA _ _ rfl hkey.out ?_; intro c hat hwc)
          | (at_mapUpdate; refine wpList_mapUpdate_own _ rfl _ _ _ 81 rfl 3 3 lawI Try.underlying81 _ b _ _ rfl hownA (by unfold maxLen; omega) _ _ _ rfl rfl hkey.out _ [] (plainElem_int Try.underlying3 (wrap64_wf _)) ?_; intro w1 hown1 hgrow1))
        have px1 : Blk w1 wr.heap.size #[.int .i64 0, .int .i64 0] 48 := (hgrow1.block _ px.lt (by intro h; injection h with h; omega)).trans px
        have hb1 := hbA.grown hgrow1 hbA.size (fun j hj => by cases hj; exact hwb)
        have y0 := px1.cell 0 _ rfl
        have hlx := px1.lt
        clear px hbA bx hgrow1 hownA hlb c0 c1 had hb hat
        try simp only [Act.put, List.setIfInBounds_toArray, List.set_cons_zero, List.set_cons_succ]
        go_wp2_with fail
        go_roundw
        case rel => exact ⟨k + 1, _, by omega, by go_num, hown1, HNX.out _, hb1⟩
        case measure => simp [intOf]; omega
    · have hkn : k = nS := by omega
      clear hlt
      go_wp2_with fail
      go_ret
      exact ⟨rfl, hb⟩

end Go.Proofs.Ytjknloaolennoaa
