/-
  The statement SuperFormat: what stands on a device at first, and whether sectors are a device's, are what the document's own answer says: for every geometry and every row of texts the call answers true and leaves its arguments as they were. No conditions; the listed table is tied to the program's text.
-/
import Derived.Test.YtaegkpfjopajpaaDoorSuperWakes
import Derived.Test.YtaegkpfjopajpaaDoorSuperFormat
import Derived.Test.YtaegkpfjopajpaaDoorSuperRefFormat
import Derived.Test.YtaegkpfjopajpaaDoorSuperRefCheck
import Derived.Test.YtaegkpfjopajpaaDoorGeoOpen
import Derived.Test.YtaegkpfjopajpaaDoorLaid
import Derived.ShutString
import Derived.ChangeOld
import Derived.Below
namespace Go.Proofs.YtaegkpfjopajpaaDoor.superFormat
open Go.ChangeShapes Go.WideShapes Go.ChangeAt Go.RowKit
open Go.ChangeMaps (open_string shut_string)
set_option linter.unusedVariables false
set_option linter.unusedSimpArgs false

/-- What stands at first, whatever the geometry. -/
def fmtN (g : G) : Nat := if mayG g = true then totN g else 0
def fmtQ (g : G) : List ByteArray := if mayG g = true then fmtL g else []
theorem fmtN_bd (g : G) : fmtN g ≤ 1099511627776 := by
  have := (total_bd g).2
  unfold fmtN
  split <;> omega
def FmtAll (g : G) (w : World) (e : Ending) (w' : World) : Prop :=
  ∃ A c, e = .returned (.tuple #[.slice A (fmtN g) c, .int .i64 (bytesE g)]) ∧ Below w.heap.size w w' ∧ Lies w' w'.heap.size A (fmtN g) (strV (fmtQ g))
theorem Format_all (g : G) (w : World) (ht : TabOk w) : Calls Tryd.prog 17 #[.agg #[.int .i64 g.N, .int .i64 g.S, .int .i64 g.B, .int .i64 g.P, .int .i64 g.J, .int .i64 g.L, .int .i64 g.E, .int .i64 g.T]] w (FmtAll g w) := by
  rcases hm : mayG g with _ | _
  · refine (Format_no g w hm ht).mono ?_
    rintro e w' ⟨rfl, hb⟩
    refine ⟨none, 0, ?_, hb, ?_⟩
    · rw [fmtN, hm, (bytes_no hm).2]; rfl
    · rw [fmtN, fmtQ, hm]; exact Lies.nothing
  · refine (Format_yes g w hm ht).mono ?_
    rintro e w' ⟨A, c, rfl, hb, ho⟩
    have e1 : fmtN g = totN g := if_pos hm
    have e2 : fmtQ g = fmtL g := if_pos hm
    unfold FmtAll
    rw [e1, e2, (bytes_yes hm).2]
    exact ⟨A, c, rfl, hb, Lies.of_own ho⟩
theorem refFormat_all (g : G) (w : World) : Calls Tryd.prog 18 #[.agg #[.int .i64 g.N, .int .i64 g.S, .int .i64 g.B, .int .i64 g.P, .int .i64 g.J, .int .i64 g.L, .int .i64 g.E, .int .i64 g.T]] w (FmtAll g w) := by
  rcases hm : mayG g with _ | _
  · refine (refFormat_no g w hm).mono ?_
    rintro e w' ⟨rfl, hb⟩
    refine ⟨none, 0, ?_, hb, ?_⟩
    · rw [fmtN, hm, (bytes_no hm).2]; rfl
    · rw [fmtN, fmtQ, hm]; exact Lies.nothing
  · refine (refFormat_yes g w hm).mono ?_
    rintro e w' ⟨A, c, rfl, hb, ho⟩
    have e1 : fmtN g = totN g := if_pos hm
    have e2 : fmtQ g = fmtL g := if_pos hm
    unfold FmtAll
    rw [e1, e2, (bytes_yes hm).2]
    exact ⟨A, c, rfl, hb, Lies.of_own ho⟩

set_option maxRecDepth 100000 in
set_option maxHeartbeats 4000000 in
theorem walk (g : G) (a1 : Option Addr) (len1 cap1 : Nat) (z1 : List ByteArray) (w : World) (w1 : IsStrs w a1 len1 cap1 z1) (ht : TabOk w) :
    Calls Tryd.prog 4 #[.agg #[.int .i64 g.N, .int .i64 g.S, .int .i64 g.B, .int .i64 g.P, .int .i64 g.J, .int .i64 g.L, .int .i64 g.E, .int .i64 g.T], .slice a1 len1 cap1] w fun e w' => e = .returned (.bool true) ∧ Below w.heap.size w w' := by
  obtain ⟨hA, hss, hlm⟩ := lies_of_strs w1
  generalize z1.take len1 = l at *
  clear w1
  have C1 : ∀ W, TabOk W → Calls Tryd.prog 17 #[.agg #[.int .i64 g.N, .int .i64 g.S, .int .i64 g.B, .int .i64 g.P, .int .i64 g.J, .int .i64 g.L, .int .i64 g.E, .int .i64 g.T]] W (fun e w' => ∃ A c, e = .returned (.tuple #[.slice A (fmtN g) c, .int .i64 (bytesE g)]) ∧ Below W.heap.size W w' ∧ Lies w' w'.heap.size A (fmtN g) (strV (fmtQ g))) := fun W h => Format_all g W h
  have C2 : ∀ W, Calls Tryd.prog 18 #[.agg #[.int .i64 g.N, .int .i64 g.S, .int .i64 g.B, .int .i64 g.P, .int .i64 g.J, .int .i64 g.L, .int .i64 g.E, .int .i64 g.T]] W (fun e w' => ∃ A c, e = .returned (.tuple #[.slice A (fmtN g) c, .int .i64 (bytesE g)]) ∧ Below W.heap.size W w' ∧ Lies w' w'.heap.size A (fmtN g) (strV (fmtQ g))) := fun W => refFormat_all g W
  have HQ := Lib.hid (fmtN_bd g)
  generalize fmtN g = fn at C1 C2 HQ
  generalize fmtQ g = fq at C1 C2
  generalize bytesE g = be at C1 C2
  have C3 := fun W h ht => Check_any a1 len1 cap1 l W h hss hlm ht
  have C4 := fun W h => refCheck_any a1 len1 cap1 l W h hss hlm
  generalize checkG l = x at C3 C4
  generalize checkE l = xe at C3 C4
  have HR := Lib.hid (RR.start g w)
  have hb0 := Lib.hid ((Below.refl w.heap.size w).alloc (Nat.le_refl _) (.cells #[.int .i64 g.N, .int .i64 g.S, .int .i64 g.B, .int .i64 g.P, .int .i64 g.J, .int .i64 g.L, .int .i64 g.E, .int .i64 g.T] 23))
  have HA0 := Lib.hid (hA.alloc (.cells #[.int .i64 g.N, .int .i64 g.S, .int .i64 g.B, .int .i64 g.P, .int .i64 g.J, .int .i64 g.L, .int .i64 g.E, .int .i64 g.T] 23))
  have ht0 := ht.below hb0.out
  have C0 := fun W B h => great_any a1 B len1 cap1 l W h hss hlm
  clear ht hA hss hlm
  go_enter Tryd.func4, Tryd.ntmps4
  go_wp2_with fail
  refine (C0 _ _ HA0.out).mono ?_
  rintro e v0 ⟨⟨b, rfl⟩, rfl⟩
  rcases b with _ | _
  · clear C0
    go_wp2_with fail
    refine (C1 _ ht0).mono ?_
    rintro e v1 ⟨A1, k1, rfl, hb1, hL1⟩
    have ht1 := ht0.below hb1
    have HR1 := Lib.hid (HR.out.call hb1)
    have HA1 := Lib.hid (HA0.out.up hb1 (Nat.le_refl _))
    have HL1 := Lib.hid hL1
    have hG := HR1.out.2.1
    unfold GAt at hG
    obtain ⟨hG0, hG1, hG2, hG3, hG4, hG5, hG6, hG7⟩ := hG
    clear HR hb0 ht0 hb1 hL1 HA0 C1
    go_wp2_with fail
    refine (C2 _).mono ?_
    rintro e v2 ⟨A2, k2, rfl, hb2, hL2⟩
    have ht2 := ht1.below hb2
    have HB2 := Lib.hid (HR1.out.call hb2).1
    have HA2 := Lib.hid (HA1.out.up hb2 (Nat.le_refl _))
    have HL2 := Lib.hid (HL1.out.up hb2 (Nat.le_refl _))
    have HM2 := Lib.hid hL2
    clear hG0 hG1 hG2 hG3 hG4 hG5 hG6 hG7 HR1 ht1 hb2 hL2 HA1 HL1 C2
    go_wp2_with fail
    refine (C3 _ HA2.out ht2).mono ?_
    rintro e v3 ⟨rfl, hb3⟩
    have p3 := Blk.new v3 #[.int .i64 x.N, .int .i64 x.S, .int .i64 x.B, .int .i64 x.P, .int .i64 x.J, .int .i64 x.L, .int .i64 x.E, .int .i64 x.T] 23
    have HB3 := Lib.hid ((below_then HB2.out hb3).alloc (below_then HB2.out hb3).size (.cells #[.int .i64 x.N, .int .i64 x.S, .int .i64 x.B, .int .i64 x.P, .int .i64 x.J, .int .i64 x.L, .int .i64 x.E, .int .i64 x.T] 23))
    have ht3 := (ht2.below hb3).alloc (.cells #[.int .i64 x.N, .int .i64 x.S, .int .i64 x.B, .int .i64 x.P, .int .i64 x.J, .int .i64 x.L, .int .i64 x.E, .int .i64 x.T] 23)
    have HA3 := Lib.hid ((HA2.out.up hb3 (Nat.le_refl _)).alloc (.cells #[.int .i64 x.N, .int .i64 x.S, .int .i64 x.B, .int .i64 x.P, .int .i64 x.J, .int .i64 x.L, .int .i64 x.E, .int .i64 x.T] 23))
    have HL3 := Lib.hid ((HL2.out.up hb3 (Nat.le_refl _)).alloc (.cells #[.int .i64 x.N, .int .i64 x.S, .int .i64 x.B, .int .i64 x.P, .int .i64 x.J, .int .i64 x.L, .int .i64 x.E, .int .i64 x.T] 23))
    have HM3 := Lib.hid ((HM2.out.up hb3 (Nat.le_refl _)).alloc (.cells #[.int .i64 x.N, .int .i64 x.S, .int .i64 x.B, .int .i64 x.P, .int .i64 x.J, .int .i64 x.L, .int .i64 x.E, .int .i64 x.T] 23))
    clear hb3 HB2 ht2 HA2 HL2 HM2 C3
    go_wp2_with fail
    refine (C4 _ HA3.out).mono ?_
    rintro e v4 ⟨rfl, hb4⟩
    have q4 := (p3.below hb4 p3.lt).alloc (.cells #[.int .i64 x.N, .int .i64 x.S, .int .i64 x.B, .int .i64 x.P, .int .i64 x.J, .int .i64 x.L, .int .i64 x.E, .int .i64 x.T] 23)
    have p4 := Blk.new v4 #[.int .i64 x.N, .int .i64 x.S, .int .i64 x.B, .int .i64 x.P, .int .i64 x.J, .int .i64 x.L, .int .i64 x.E, .int .i64 x.T] 23
    have ht4 := (ht3.below hb4).alloc (.cells #[.int .i64 x.N, .int .i64 x.S, .int .i64 x.B, .int .i64 x.P, .int .i64 x.J, .int .i64 x.L, .int .i64 x.E, .int .i64 x.T] 23)
    have HB4 := Lib.hid ((below_then HB3.out hb4).alloc (below_then HB3.out hb4).size (.cells #[.int .i64 x.N, .int .i64 x.S, .int .i64 x.B, .int .i64 x.P, .int .i64 x.J, .int .i64 x.L, .int .i64 x.E, .int .i64 x.T] 23))
    have HL4 := Lib.hid ((HL3.out.up hb4 (Nat.le_refl _)).alloc (.cells #[.int .i64 x.N, .int .i64 x.S, .int .i64 x.B, .int .i64 x.P, .int .i64 x.J, .int .i64 x.L, .int .i64 x.E, .int .i64 x.T] 23))
    have HM4 := Lib.hid ((HM3.out.up hb4 (Nat.le_refl _)).alloc (.cells #[.int .i64 x.N, .int .i64 x.S, .int .i64 x.B, .int .i64 x.P, .int .i64 x.J, .int .i64 x.L, .int .i64 x.E, .int .i64 x.T] 23))
    clear hb4 HB3 ht3 p3 HA3 HL3 HM3 C4
    go_wp2_with fail
    refine (same_any A1 A2 _ _ fn k1 k2 fq _ HL4.out HM4.out HQ.out).mono ?_
    rintro e v5 ⟨rfl, q, hq⟩
    have hb5 : Below (v4.alloc (.cells #[.int .i64 x.N, .int .i64 x.S, .int .i64 x.B, .int .i64 x.P, .int .i64 x.J, .int .i64 x.L, .int .i64 x.E, .int .i64 x.T] 23)).heap.size (v4.alloc (.cells #[.int .i64 x.N, .int .i64 x.S, .int .i64 x.B, .int .i64 x.P, .int .i64 x.J, .int .i64 x.L, .int .i64 x.E, .int .i64 x.T] 23)) v5 := hq ▸ drewN_below _ _ _
    clear hq HL4 HM4
    have q5 := q4.below hb5 q4.lt
    have p5 := p4.below hb5 p4.lt
    have HB5 := Lib.hid (below_then HB4.out hb5)
    have ht5 := ht4.below hb5
    clear hb5 HB4 ht4 p4 q4
    have pc0 := p5.cell 0 _ rfl
    have pc1 := p5.cell 1 _ rfl
    have pc2 := p5.cell 2 _ rfl
    have pc3 := p5.cell 3 _ rfl
    have pc4 := p5.cell 4 _ rfl
    have pc5 := p5.cell 5 _ rfl
    have pc6 := p5.cell 6 _ rfl
    have pc7 := p5.cell 7 _ rfl
    have qc0 := q5.cell 0 _ rfl
    have qc1 := q5.cell 1 _ rfl
    have qc2 := q5.cell 2 _ rfl
    have qc3 := q5.cell 3 _ rfl
    have qc4 := q5.cell 4 _ rfl
    have qc5 := q5.cell 5 _ rfl
    have qc6 := q5.cell 6 _ rfl
    have qc7 := q5.cell 7 _ rfl
    clear p5 q5
    go_wp2_with fail
    refine (swakes_any _ ht5).mono ?_
    rintro e v9 ⟨rfl, hb9⟩
    have HB9 := below_then HB5.out hb9
    clear HB5 hb9 ht5
    go_wp2_with fail
    go_ret
    exact ⟨rfl, HB9⟩
  · go_wp2_with fail
    refine (swakes_any _ ht0).mono ?_
    rintro e v1 ⟨rfl, hb1⟩
    have HB := below_then hb0.out hb1
    go_wp2_with fail
    go_ret
    exact ⟨rfl, HB⟩

/-! ### THE ROW's STEP -/
set_option maxRecDepth 100000 in
theorem lifted (os : Os) (started : os.Started) (H : Type) (enc : TypeId × Value → H) :
    ReturnsInHanded {} Tryd.checked os 4 .any (fun w args => (Rows.superFormatSpec.pre enc Tryd.prog Tryd.f4 [] false w args ∧ laidMetH Tryd.prog laidL w) ∧ sizedMet enc Tryd.prog Tryd.f4 (OpenSpec.ofChange Rows.superFormatSpec) false w args) (Rows.superFormatSpec.post enc Tryd.prog Tryd.f4 false true false false) := by
  refine returnsInHanded_of_change_and (C := Tryd.checked) (X := fun w _ => laidMetH Tryd.prog laidL w) (fun _ _ _ hh h => h.of_heap hh) own started (by kernel_rfl) Tryd.func4
    (ChangeSpec.witness_shaped (enc := enc) (C := Tryd.checked) (os := os) (X := fun w _ => laidMetH Tryd.prog laidL w) false (World.doorLaid Tryd.prog 14 os) #[.agg #[.int .i64 0, .int .i64 0, .int .i64 0, .int .i64 0, .int .i64 0, .int .i64 0, .int .i64 0, .int .i64 0], .slice none 0 0] 8 rfl (World.shaped_of_RefB (by kernel_rfl) (by kernel_rfl)) (by kernel_rfl) (by kernel_rfl) (by kernel_rfl) (door_met os _)) ?_
  intro W base args ds gs before hval0 hW _ _ hL _
  have hval : ∀ (j : Nat) t v, Tryd.f4.params[j]? = some t → args[j]? = some v → Value.okWide Tryd.prog W .any base t v := hval0
  have hW' := hW
  obtain ⟨p, q, hA0, hV, rfl, hfz, hnd⟩ := hW
  have hA : DataW.TrodAll enc Tryd.prog W 0 (fun _ => true) true Tryd.f4.params.toList args.toList ds p := hA0
  rw [Tryd.params4] at hA hval
  obtain ⟨v0, vs0, d0, ds0, p0, q0, hargs, rfl, rfl, h0, r0⟩ := trodAll_cons hA
  obtain ⟨v1, vs1, d1, ds1, p1, q1, rfl, rfl, rfl, h1, r1⟩ := trodAll_cons r0
  obtain ⟨rfl, rfl, rfl⟩ := trodAll_nil r1
  obtain rfl : args = #[v0, v1] := by cases args; simp_all
  obtain ⟨rfl, rfl⟩ := trodVars_none hV
  have k0 := h0
  have lt0 : ∀ x ∈ p0, x.block < W.heap.size := by obtain ⟨m, hm⟩ := k0; exact DataW.trod_lt m _ _ _ hm
  obtain ⟨g0, rfl⟩ := open_geo (hval 0 23 v0 rfl rfl) h0
  have k1 := h1
  have lt1 : ∀ x ∈ p1, x.block < W.heap.size := by obtain ⟨m, hm⟩ := k1; exact DataW.trod_lt m _ _ _ hm
  obtain ⟨a1, len1, cap1, rfl⟩ := okWide_slice Tryd.underlying34 (hval 1 34 v1 rfl rfl)
  obtain ⟨z1, w1⟩ : ∃ zs, IsStrs W a1 len1 cap1 zs := by
    obtain ⟨fuel, hf⟩ := h1
    rcases open_strings Tryd.underlying34 Tryd.underlying9 (by kernel_rfl) hf with ⟨hcs, _⟩ | ⟨x, l, c, zs, hcs, _, hl, hm, hz, _, hcell, hwz⟩
    · simp [Value.cells] at hcs
      obtain ⟨rfl, rfl, rfl⟩ := hcs
      exact ⟨[], .inl ⟨rfl, rfl, rfl, rfl⟩⟩
    · simp [Value.cells] at hcs
      obtain ⟨rfl, rfl, rfl⟩ := hcs
      exact ⟨zs, .inr ⟨_, rfl, hl, hm, by simpa using hz, hcell, hwz⟩⟩
  clear hA0 hval0
  refine (walk g0 a1 len1 cap1 z1 W w1 (met_of_laid hL)).mono fun e W' ⟨he, bel⟩ => ?_
  subst he
  exact ⟨_, rfl, _, _, _, [], _, [], hW', trodAll_mk1 (shut_bool Tryd.underlying4 _), (trodAll_cons_mk (Below.trod laidOut (by kernel_rfl) (of_decide_eq_true (by kernel_rfl)) k0 bel lt0) (trodAll_cons_mk (Below.trod laidOut (by kernel_rfl) (of_decide_eq_true (by kernel_rfl)) k1 bel lt1) trodAll_mk0)), rfl, bel.frame _, fun h => by cases h⟩

theorem over : Rows.superFormatRow.holds Tryd.pinned (OpenSpec.ofChange Rows.superFormatSpec) :=
  OpenClaim.holds_of_wide 4 Tryd.f4 rfl rfl rfl rfl rfl rfl rfl ⟨rfl, rfl, rfl, rfl, rfl⟩ rfl rfl rfl rfl rfl (by kernel_rfl) Tryd.func4 (by kernel_rfl)
    (of_decide_eq_true (by kernel_rfl)) (by unfold Func.isWrapper; first | (rw [if_pos (by decide +kernel)]; kernel_rfl) | (rw [if_neg (by decide +kernel)]; exact ⟨rfl, rfl⟩))
    (fun os started H enc _ => lifted os started H enc)

/-- The statement. -/
theorem proved : Rows.SuperFormatSaid := over
#print axioms proved

/-- THE TIED CARD. -/
theorem card : Rows.SuperFormatCardSaid :=
  Claim7.holds_tied_plain_at .later [] [.data] true (true, "3cb45ea245c34bde2fcc8e65605bbc01081f3f8c8232fc1b05926c495b85c050") false
    proved (fun _ h => by cases h) (by kernel_rfl) (fun _ h => by cases h) superFormat_row_tie rfl ⟨rfl, rfl⟩ (by kernel_rfl) rfl
    (fun f fn hf hfn => by
      obtain rfl : f = 4 := Option.some.inj ((show Tryd.prog.funcNamed "breakwater/breakwaterlaw05.SuperFormat" = some 4 by kernel_rfl).symm.trans hf) |>.symm
      obtain rfl : fn = Tryd.f4 := (Option.some.inj (Tryd.func4.symm.trans hfn)).symm
      exact ⟨by kernel_rfl, fun j t ht => by
        rw [Tryd.params4] at ht
        have hm : t ∈ [23, 34] := by simpa using Array.mem_of_getElem? ht
        have hall : ([23, 34].all fun u => !Tryd.prog.wantsStandIn u) = true := by kernel_rfl
        exact (show Tryd.prog.wantsStandIn t = false by simpa using List.all_eq_true.1 hall t hm)⟩)
    (by kernel_rfl)
#print axioms card
end Go.Proofs.YtaegkpfjopajpaaDoor.superFormat
