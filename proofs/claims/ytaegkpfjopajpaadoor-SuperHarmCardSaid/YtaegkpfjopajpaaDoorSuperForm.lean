/-
  super: the forms, what is made and what is read of them: by contract.
-/
import Derived.Test.YtaegkpfjopajpaaDoorSuperMath
import Derived.Test.YtaegkpfjopajpaaDoorGeoRR
import Derived.Test.YtaegkpfjopajpaaDoorGeoCalls
import Derived.RegionTactic
namespace Go.Proofs.YtaegkpfjopajpaaDoor
open Go.RowKit
set_option linter.unusedVariables false
set_option linter.unusedSimpArgs false

/-- Two results, the first in a block of the call's own; both. -/
theorem results_cell_tmp {P : Program} {fn : Func} {t u : Tmp} {ty : TypeId} (h : fn.results = #[.cell t ty, .tmp u]) {tmps : Array Value} {w : World} {b : Nat} {cs : List Value} {d : TypeDesc} {v : Value}
    (hp : tmps.getD t undef = .pointer (some ⟨b, 0, none⟩)) (hv : tmps.getD u undef = v) (hr : w.rangeAt b 0 cs) (hu : P.underlying ty = some d) (hd : d.isRow = true) (hi : (P.info? ty).map (·.size) = some cs.length) :
    (results fn tmps).run P w = .ok (.tuple #[.agg cs.toArray, v]) w := by
  have hp' : tmps[t]?.getD undef = .pointer (some ⟨b, 0, none⟩) := by simpa using hp
  have hv' : tmps[u]?.getD undef = v := by simpa using hv
  simp [results, h, hp', hv', asAddr, run_loadVar_mid w b 0 ty cs d hr hu hd hi]

set_option maxRecDepth 100000 in
set_option maxHeartbeats 1000000 in
theorem newHeader_any (w : World) : Calls Tryd.prog 31 #[] w fun e w' => ∃ A, e = .returned (.agg #[.int .i8 2, .slice A 1 1]) ∧ Below w.heap.size w w' ∧ Lies w' w'.heap.size A 1 (headW.map (Value.int .i64)) := by
  go_enter Tryd.func31, Tryd.ntmps31
  go_wp2_with fail
  refine bodyPost_ret (results_cell (cs := [.int .i8 2, .slice (some ⟨w.heap.size + 1, 0, none⟩) 1 1]) Tryd.results31 (by rfl) ((Blk.new w #[.int .i8 2, .slice (some ⟨w.heap.size + 1, 0, none⟩) 1 1] 56).alloc _).range Tryd.underlying56 rfl (by kernel_rfl)) rfl ?_
  refine ⟨_, rfl, ((Below.refl _ _).alloc (Nat.le_refl _) _).alloc (by simp) _, ?_⟩
  have h := lies_new (w.alloc (.cells #[.int .i8 2, .slice (some ⟨w.heap.size + 1, 0, none⟩) 1 1] 56)) #[.int .i64 6] 3 (0, 0)
  simpa [headW] using h

set_option maxRecDepth 100000 in
set_option maxHeartbeats 1000000 in
theorem newSuperblock_any (w : World) : Calls Tryd.prog 25 #[] w fun e w' => ∃ A, e = .returned (.agg #[.int .i8 1, .slice A 8 8]) ∧ Below w.heap.size w w' ∧ Lies w' w'.heap.size A 8 (supW.map (Value.int .i64)) := by
  go_enter Tryd.func25, Tryd.ntmps25
  go_wp2_with fail
  refine bodyPost_ret (results_cell (cs := [.int .i8 1, .slice (some ⟨w.heap.size + 1, 0, none⟩) 8 8]) Tryd.results25 (by rfl) ((Blk.new w #[.int .i8 1, .slice (some ⟨w.heap.size + 1, 0, none⟩) 8 8] 50).alloc _).range Tryd.underlying50 rfl (by kernel_rfl)) rfl ?_
  refine ⟨_, rfl, ((Below.refl _ _).alloc (Nat.le_refl _) _).alloc (by simp) _, ?_⟩
  have h := lies_new (w.alloc (.cells #[.int .i8 1, .slice (some ⟨w.heap.size + 1, 0, none⟩) 8 8] 50)) #[.int .i64 2, .int .i64 2, .int .i64 2, .int .i64 2, .int .i64 2, .int .i64 2, .int .i64 4, .int .i64 4] 3 (0, 0)
  simpa [supW] using h

set_option maxRecDepth 100000 in
set_option maxHeartbeats 1000000 in
theorem sector_f (k : Int) (A B : Option Addr) (n m c d : Nat) (zw zl : List Int) (w : World) (h1 : k ≤ 127) (hA : Lies w w.heap.size A n (zw.map (Value.int .i64))) (hB : Lies w w.heap.size B m (zl.map (Value.int .i64)))
    (hn : n ≤ 1099511627776) (hm : m ≤ 1099511627776) (ht : TabOk w) :
    Calls Tryd.prog 32 #[.agg #[.int .i8 k, .slice A n c], .slice B m d] w fun e w' => e = makeOut k ⟨#[]⟩ zw zl ∧ Below w.heap.size w w' := by
  have h0 : (⟨#[]⟩ : ByteArray).size ≤ 1099511627776 := by decide
  obtain ⟨l, e0, HE⟩ := show ∃ l e, Hid (makeOut k ⟨#[]⟩ zw zl = .returned (.tuple #[.string l, .int .i64 e])) from makeOut_gen k ⟨#[]⟩ zw zl
  go_enter Tryd.func32, Tryd.ntmps32
  go_wp2_with fail
  refine (Make_any k ⟨#[]⟩ A B n m c d zw zl _ h1 h0 (hA.alloc _) (hB.alloc _) hn hm (ht.alloc _)).mono ?_
  rintro e w1 ⟨rfl, hb⟩
  rw [HE.out]
  go_wp2_with fail
  go_ret2
  exact ⟨HE.out.symm, boxed hb⟩

theorem notEmpty {R : ByteArray} (h : ¬ R = ⟨#[]⟩) : R.toList.isEmpty = false := by
  have h1 := str_diff h
  rw [show (⟨#[]⟩ : ByteArray).toList = [] from by kernel_rfl] at h1
  cases hl : R.toList with
  | nil => rw [hl] at h1; simp at h1
  | cons a l => rfl

/-- What reading a form's numbers comes to. -/
def NumsPost (k : Int) (s : ByteArray) (zw : List Int) (w : World) (e : Ending) (w' : World) : Prop :=
  Below w.heap.size w w' ∧ ∃ (A : Option Addr) (n c : Nat), e = .returned (.tuple #[.slice A n c, .bool (fldB k s zw && decide (fldRest k s zw = ⟨#[]⟩))]) ∧ Hid ((fldVal k s zw).length = n) ∧ Lies w' w'.heap.size A n ((fldVal k s zw).map (Value.int .i64))

theorem numsPost_of {k : Int} {s : ByteArray} {zw : List Int} {w w' : World} {A : Option Addr} {n c : Nat} {b : Bool} (h : Hid ((fldB k s zw && decide (fldRest k s zw = ⟨#[]⟩)) = b)) (hb : Below w.heap.size w w')
    (HN : Hid ((fldVal k s zw).length = n)) (hl : Lies w' w'.heap.size A n ((fldVal k s zw).map (Value.int .i64))) : NumsPost k s zw w (.returned (.tuple #[.slice A n c, .bool b])) w' :=
  ⟨hb, A, n, c, by rw [h.out], HN, hl⟩

set_option maxRecDepth 100000 in
set_option maxHeartbeats 1000000 in
theorem numbers_f (k : Int) (s : ByteArray) (A : Option Addr) (n c : Nat) (zw : List Int) (w : World) (hs : s.size ≤ maxLen) (hA : Lies w w.heap.size A n (zw.map (Value.int .i64))) (hn : n ≤ 1099511627776) (ht : TabOk w) :
    Calls Tryd.prog 47 #[.agg #[.int .i8 k, .slice A n c], .string s] w (NumsPost k s zw w) := by
  go_enter Tryd.func47, Tryd.ntmps47
  go_wp2_with fail
  refine (Fields_any k s A n c zw _ hs (hA.alloc _) hn (ht.alloc _)).mono ?_
  rintro e w1 ⟨hb, A1, n1, c1, rfl, HN, hl⟩
  have hb1 := boxed hb
  clear hb
  rcases hf : fldB k s zw with _ | _
  · have he : fldErr k s zw = 30 := by simp [fldErr, hf]
    have HB : Hid ((fldB k s zw && decide (fldRest k s zw = ⟨#[]⟩)) = false) := by show _ = _; rw [hf]; rfl
    rw [he]
    clear hf he
    generalize fldRest k s zw = R
    go_wp2_with fail
    go_ret2
    exact numsPost_of HB hb1 HN hl
  · have he : fldErr k s zw = 0 := by simp [fldErr, hf]
    rw [he]
    by_cases hr : fldRest k s zw = ⟨#[]⟩
    · have HB : Hid ((fldB k s zw && decide (fldRest k s zw = ⟨#[]⟩)) = true) := by show _ = _; rw [hf, decide_eq_true hr]; rfl
      rw [hr]
      clear hf he hr
      go_wp2_with fail
      go_ret2
      exact numsPost_of HB hb1 HN hl
    · have HB : Hid ((fldB k s zw && decide (fldRest k s zw = ⟨#[]⟩)) = false) := by show _ = _; rw [hf, decide_eq_false hr]; rfl
      have hd := notEmpty hr
      clear hf he hr
      generalize fldRest k s zw = R at hd ⊢
      go_wp2_with fail
      go_ret2
      exact numsPost_of HB hb1 HN hl

set_option maxRecDepth 100000 in
set_option maxHeartbeats 1000000 in
theorem of_f (g : G) (A : Option Addr) (w : World) (hA : Lies w w.heap.size A 8 (supW.map (Value.int .i64))) (ht : TabOk w) :
    Calls Tryd.prog 26 #[.agg #[.int .i8 1, .slice A 8 8], .agg #[.int .i64 g.N, .int .i64 g.S, .int .i64 g.B, .int .i64 g.P, .int .i64 g.J, .int .i64 g.L, .int .i64 g.E, .int .i64 g.T]] w fun e w' => e = .returned (.tuple #[.string (bytesV g), .int .i64 (bytesE g)]) ∧ Below w.heap.size w w' := by
  have hA0 := hA.alloc (.cells #[.int .i8 1, .slice A 8 8] 50)
  have ht0 := ht.alloc (.cells #[.int .i8 1, .slice A 8 8] 50)
  have hb0 : Below w.heap.size w (w.alloc (.cells #[.int .i8 1, .slice A 8 8] 50)) := (Below.refl _ _).alloc (Nat.le_refl _) _
  have p0 := Blk.new w #[.int .i8 1, .slice A 8 8] 50
  have HR0 := RR.start g (w.alloc (.cells #[.int .i8 1, .slice A 8 8] 50))
  go_enter Tryd.func26, Tryd.ntmps26
  go_wp2_with fail
  refine (may_any g _).mono ?_
  rintro e w1 ⟨rfl, hb⟩
  have hb1 := hb0.trans ((boxed hb).mono (by simp))
  rcases hm : mayG g with _ | _
  · have HO := Lib.hid (bytes_no hm)
    clear hm
    go_wp2_with fail
    go_ret2
    exact ⟨by rw [HO.out.1, HO.out.2]; rfl, hb1⟩
  · have HO := Lib.hid (make_sup hm)
    have HR := HR0.call hb
    have hG := HR.2.1
    have hA1 := hA.up hb1 (Nat.le_refl _)
    have ht1 := ht.below hb1
    have p1 := (p0.alloc (.cells #[.int .i64 g.N, .int .i64 g.S, .int .i64 g.B, .int .i64 g.P, .int .i64 g.J, .int .i64 g.L, .int .i64 g.E, .int .i64 g.T] 23)).below hb (by simp; omega)
    have c0 := p1.cell 0 _ rfl
    have c1 := p1.cell 1 _ rfl
    unfold GAt at hG
    simp only [World.size_alloc] at hG
    obtain ⟨hG0, hG1, hG2, hG3, hG4, hG5, hG6, hG7⟩ := hG
    clear hm HR HR0 hb p0 p1 hA ht hA0 ht0 hb0
    go_wp2_with fail
    have hl := lies_new w1 #[.int .i64 g.N, .int .i64 g.S, .int .i64 g.B, .int .i64 g.P, .int .i64 g.J, .int .i64 g.L, .int .i64 g.E, .int .i64 g.T] 3 (0, 0)
    refine (sector_f 1 A _ 8 8 8 8 supW (numsG g) _ (by omega) (hA1.alloc _) hl (by omega) (by omega) (ht1.alloc _)).mono ?_
    rintro e w2 ⟨rfl, hb2⟩
    rw [HO.out]
    have hb02 := below_then hb1 (boxed hb2)
    clear hb1 hb2 hl
    go_wp2_with fail
    go_ret2
    exact ⟨rfl, hb02⟩

set_option maxRecDepth 100000 in
set_option maxHeartbeats 1000000 in
theorem Bytes_any (g : G) (w : World) (ht : TabOk w) :
    Calls Tryd.prog 8 #[.agg #[.int .i64 g.N, .int .i64 g.S, .int .i64 g.B, .int .i64 g.P, .int .i64 g.J, .int .i64 g.L, .int .i64 g.E, .int .i64 g.T]] w fun e w' => e = .returned (.tuple #[.string (bytesV g), .int .i64 (bytesE g)]) ∧ Below w.heap.size w w' := by
  have ht0 := ht.alloc (.cells #[.int .i64 g.N, .int .i64 g.S, .int .i64 g.B, .int .i64 g.P, .int .i64 g.J, .int .i64 g.L, .int .i64 g.E, .int .i64 g.T] 23)
  go_enter Tryd.func8, Tryd.ntmps8
  go_wp2_with fail
  go_region_with (first
    | (go_at_call 25; refine (newSuperblock_any _).mono ?_; rintro e w1 ⟨A1, rfl, hb1, hl1⟩; obtain ⟨hc, hf⟩ := bcell hb1; have hb01 := boxed_d hb1; have ht1 := ht.below hb01)
    | (go_at_call 26; refine (of_f g _ _ (by assumption) (by assumption)).mono ?_; rintro e w2 ⟨rfl, hb2⟩))
  all_goals
    go_wp2_with fail
    go_ret2
    exact ⟨rfl, below_then hb01 hb2⟩

set_option maxRecDepth 100000 in
set_option maxHeartbeats 1000000 in
theorem Head_any (t : Int) (w : World) (ht : TabOk w) :
    Calls Tryd.prog 12 #[.int .i64 t] w fun e w' => e = .returned (.tuple #[.string (headV' t), .int .i64 (headE t)]) ∧ Below w.heap.size w w' := by
  have HO := Lib.hid (make_head t)
  go_enter Tryd.func12, Tryd.ntmps12
  go_wp2_with fail
  refine (newHeader_any _).mono ?_
  rintro e w1 ⟨A1, rfl, hb1, hl1⟩
  have ht1 := ht.below hb1
  have hfl : ∀ W : World, (Instr.field 56 (.agg #[.int .i8 2, .slice A1 1 1]) 0).run Tryd.prog W = .ok (.agg #[.int .i8 2, .slice A1 1 1]) W := fun _ => by kernel_rfl
  go_wp2_with fail
  have hl := lies_new w1 #[.int .i64 t] 3 (0, 0)
  refine (sector_f 2 A1 _ 1 1 1 1 headW [t] _ (by omega) (hl1.alloc _) hl (by omega) (by omega) (ht1.alloc _)).mono ?_
  rintro e w2 ⟨rfl, hb2⟩
  rw [HO.out]
  go_wp2_with fail
  go_ret2
  exact ⟨rfl, below_then hb1 (boxed hb2)⟩

end Go.Proofs.YtaegkpfjopajpaaDoor
