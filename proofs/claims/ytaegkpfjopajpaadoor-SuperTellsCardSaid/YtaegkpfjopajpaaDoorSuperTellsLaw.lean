/-
  The statement SuperTells: superblocks and headers, written and read, are what the document's own answer says: for every geometry, every tail and every text the call answers true and leaves its arguments as they were. No conditions; the listed table is tied to the program's text.
-/
import Derived.Test.YtaegkpfjopajpaaDoorSuperWakes
import Derived.Test.YtaegkpfjopajpaaDoorGeoOpen
import Derived.Test.YtaegkpfjopajpaaDoorLaid
import Derived.ShutString
import Derived.ChangeOld
import Derived.Below
namespace Go.Proofs.YtaegkpfjopajpaaDoor.superTells
open Go.ChangeShapes Go.WideShapes Go.ChangeAt Go.RowKit
open Go.ChangeMaps (open_string shut_string)
set_option linter.unusedVariables false
set_option linter.unusedSimpArgs false

set_option maxRecDepth 100000 in
set_option maxHeartbeats 4000000 in
theorem walk (g : G) (a1 : Int) (a2 : ByteArray) (w : World) (w1 : (Lit.int .i64 a1).wf = true) (w2 : a2.size ≤ maxLen) (ht : TabOk w) :
    Calls Tryd.prog 3 #[.agg #[.int .i64 g.N, .int .i64 g.S, .int .i64 g.B, .int .i64 g.P, .int .i64 g.J, .int .i64 g.L, .int .i64 g.E, .int .i64 g.T], .int .i64 a1, .string a2] w fun e w' => e = .returned (.bool true) ∧ Below w.heap.size w w' := by
  have C1 := Bytes_any g
  have C2 := refBytes_any g
  generalize bytesV g = bv at C1 C2
  generalize bytesE g = be at C1 C2
  have C3 := fun W h => Read_any a2 W w2 h
  have C4 := fun W => refRead_any a2 W w2
  generalize readG a2 = x at C3 C4
  generalize readE a2 = xe at C3 C4
  have C5 := Head_any a1
  have C6 := refHead_any a1
  generalize headV' a1 = hv at C5 C6
  generalize headE a1 = he at C5 C6
  have C7 := fun W h => Tail_any a2 W w2 h
  have C8 := fun W => refTail_any a2 W w2
  generalize tailV a2 = tv at C7 C8
  generalize tailE a2 = te at C7 C8
  have sbv := str_same bv
  have shv := str_same hv
  unfold maxLen at w2
  clear w1
  have HR := Lib.hid (RR.start g w)
  have hb0 := Lib.hid ((Below.refl w.heap.size w).alloc (Nat.le_refl _) (.cells #[.int .i64 g.N, .int .i64 g.S, .int .i64 g.B, .int .i64 g.P, .int .i64 g.J, .int .i64 g.L, .int .i64 g.E, .int .i64 g.T] 23))
  have ht0 := ht.below hb0.out
  clear ht
  by_cases hg : a2.size ≤ 2000
  · clear w2
    go_enter Tryd.func3, Tryd.ntmps3
    go_wp2_with fail
    refine (C1 _ ht0).mono ?_
    rintro e v1 ⟨rfl, hb1⟩
    have ht1 := ht0.below hb1
    have HR1 := Lib.hid (HR.out.call hb1)
    have hG := HR1.out.2.1
    unfold GAt at hG
    obtain ⟨hG0, hG1, hG2, hG3, hG4, hG5, hG6, hG7⟩ := hG
    clear HR hb0 ht0 hb1 C1
    go_wp2_with fail
    refine (C2 _).mono ?_
    rintro e v2 ⟨rfl, hb2⟩
    have ht2 := ht1.below hb2
    have HB2 := Lib.hid (HR1.out.call hb2).1
    clear hG0 hG1 hG2 hG3 hG4 hG5 hG6 hG7 HR1 ht1 hb2 C2
    go_wp2_with fail
    refine (C3 _ ht2).mono ?_
    rintro e v3 ⟨rfl, hb3⟩
    have ht3 := ht2.below hb3
    have HB3 := Lib.hid (below_then HB2.out hb3)
    clear hb3 HB2 ht2 C3
    have p3 := Blk.new v3 #[.int .i64 x.N, .int .i64 x.S, .int .i64 x.B, .int .i64 x.P, .int .i64 x.J, .int .i64 x.L, .int .i64 x.E, .int .i64 x.T] 23
    have HB3' := Lib.hid (HB3.out.alloc HB3.out.size (.cells #[.int .i64 x.N, .int .i64 x.S, .int .i64 x.B, .int .i64 x.P, .int .i64 x.J, .int .i64 x.L, .int .i64 x.E, .int .i64 x.T] 23))
    clear HB3
    go_wp2_with fail
    refine (C4 _).mono ?_
    rintro e v4 ⟨rfl, hb4⟩
    have q4 := (p3.below hb4 p3.lt).alloc (.cells #[.int .i64 x.N, .int .i64 x.S, .int .i64 x.B, .int .i64 x.P, .int .i64 x.J, .int .i64 x.L, .int .i64 x.E, .int .i64 x.T] 23)
    have p4 := Blk.new v4 #[.int .i64 x.N, .int .i64 x.S, .int .i64 x.B, .int .i64 x.P, .int .i64 x.J, .int .i64 x.L, .int .i64 x.E, .int .i64 x.T] 23
    have ht4 := (ht3.below (below_then ((Below.refl _ _).alloc (Nat.le_refl _) _) hb4)).alloc (.cells #[.int .i64 x.N, .int .i64 x.S, .int .i64 x.B, .int .i64 x.P, .int .i64 x.J, .int .i64 x.L, .int .i64 x.E, .int .i64 x.T] 23)
    have HB4 := Lib.hid ((below_then HB3'.out hb4).alloc (below_then HB3'.out hb4).size (.cells #[.int .i64 x.N, .int .i64 x.S, .int .i64 x.B, .int .i64 x.P, .int .i64 x.J, .int .i64 x.L, .int .i64 x.E, .int .i64 x.T] 23))
    clear hb4 HB3' p3 ht3 C4
    go_wp2_with fail
    refine (C5 _ ht4).mono ?_
    rintro e v5 ⟨rfl, hb5⟩
    have q5 := q4.below hb5 q4.lt
    have p5 := p4.below hb5 p4.lt
    have HB5 := Lib.hid (below_then HB4.out hb5)
    have ht5 := ht4.below hb5
    clear hb5 HB4 ht4 p4 q4 C5
    go_wp2_with fail
    refine (C6 _).mono ?_
    rintro e v6 ⟨rfl, hb6⟩
    have q6 := q5.below hb6 q5.lt
    have p6 := p5.below hb6 p5.lt
    have HB6 := Lib.hid (below_then HB5.out hb6)
    have ht6 := ht5.below hb6
    clear hb6 HB5 ht5 p5 q5 C6
    go_wp2_with fail
    refine (C7 _ ht6).mono ?_
    rintro e v7 ⟨rfl, hb7⟩
    have q7 := q6.below hb7 q6.lt
    have p7 := p6.below hb7 p6.lt
    have HB7 := Lib.hid (below_then HB6.out hb7)
    have ht7 := ht6.below hb7
    clear hb7 HB6 ht6 p6 q6 C7
    go_wp2_with fail
    refine (C8 _).mono ?_
    rintro e v8 ⟨rfl, hb8⟩
    have q8 := q7.below hb8 q7.lt
    have p8 := p7.below hb8 p7.lt
    have HB8 := Lib.hid (below_then HB7.out hb8)
    have ht8 := ht7.below hb8
    clear hb8 HB7 ht7 p7 q7 C8
    have pc0 := p8.cell 0 _ rfl
    have pc1 := p8.cell 1 _ rfl
    have pc2 := p8.cell 2 _ rfl
    have pc3 := p8.cell 3 _ rfl
    have pc4 := p8.cell 4 _ rfl
    have pc5 := p8.cell 5 _ rfl
    have pc6 := p8.cell 6 _ rfl
    have pc7 := p8.cell 7 _ rfl
    have qc0 := q8.cell 0 _ rfl
    have qc1 := q8.cell 1 _ rfl
    have qc2 := q8.cell 2 _ rfl
    have qc3 := q8.cell 3 _ rfl
    have qc4 := q8.cell 4 _ rfl
    have qc5 := q8.cell 5 _ rfl
    have qc6 := q8.cell 6 _ rfl
    have qc7 := q8.cell 7 _ rfl
    clear p8 q8
    go_wp2_with fail
    refine (swakes_any _ ht8).mono ?_
    rintro e v9 ⟨rfl, hb9⟩
    have HB9 := below_then HB8.out hb9
    clear HB8 hb9 ht8
    go_wp2_with fail
    go_ret
    exact ⟨rfl, HB9⟩
  · go_enter Tryd.func3, Tryd.ntmps3
    go_wp2_with fail
    refine (swakes_any _ ht0).mono ?_
    rintro e v1 ⟨rfl, hb1⟩
    have HB := below_then hb0.out hb1
    go_wp2_with fail
    go_ret
    exact ⟨rfl, HB⟩

/-! ### THE ROW's STEP -/
set_option maxRecDepth 100000 in
theorem lifted (os : Os) (started : os.Started) (H : Type) (enc : TypeId × Value → H) :
    ReturnsInHanded {} Tryd.checked os 3 .any (fun w args => (Rows.superTellsSpec.pre enc Tryd.prog Tryd.f3 [] false w args ∧ laidMetH Tryd.prog laidL w) ∧ sizedMet enc Tryd.prog Tryd.f3 (OpenSpec.ofChange Rows.superTellsSpec) false w args) (Rows.superTellsSpec.post enc Tryd.prog Tryd.f3 false true false false) := by
  refine returnsInHanded_of_change_and (C := Tryd.checked) (X := fun w _ => laidMetH Tryd.prog laidL w) (fun _ _ _ hh h => h.of_heap hh) own started (by kernel_rfl) Tryd.func3
    (ChangeSpec.witness_shaped (enc := enc) (C := Tryd.checked) (os := os) (X := fun w _ => laidMetH Tryd.prog laidL w) false (World.doorLaid Tryd.prog 14 os) #[.agg #[.int .i64 0, .int .i64 0, .int .i64 0, .int .i64 0, .int .i64 0, .int .i64 0, .int .i64 0, .int .i64 0], .int .i64 0, .string ByteArray.empty] 8 rfl (World.shaped_of_RefB (by kernel_rfl) (by kernel_rfl)) (by kernel_rfl) (by kernel_rfl) (by kernel_rfl) (door_met os _)) ?_
  intro W base args ds gs before hval0 hW _ _ hL _
  have hval : ∀ (j : Nat) t v, Tryd.f3.params[j]? = some t → args[j]? = some v → Value.okWide Tryd.prog W .any base t v := hval0
  have hW' := hW
  obtain ⟨p, q, hA0, hV, rfl, hfz, hnd⟩ := hW
  have hA : DataW.TrodAll enc Tryd.prog W 0 (fun _ => true) true Tryd.f3.params.toList args.toList ds p := hA0
  rw [Tryd.params3] at hA hval
  obtain ⟨v0, vs0, d0, ds0, p0, q0, hargs, rfl, rfl, h0, r0⟩ := trodAll_cons hA
  obtain ⟨v1, vs1, d1, ds1, p1, q1, rfl, rfl, rfl, h1, r1⟩ := trodAll_cons r0
  obtain ⟨v2, vs2, d2, ds2, p2, q2, rfl, rfl, rfl, h2, r2⟩ := trodAll_cons r1
  obtain ⟨rfl, rfl, rfl⟩ := trodAll_nil r2
  obtain rfl : args = #[v0, v1, v2] := by cases args; simp_all
  obtain ⟨rfl, rfl⟩ := trodVars_none hV
  have k0 := h0
  have lt0 : ∀ x ∈ p0, x.block < W.heap.size := by obtain ⟨m, hm⟩ := k0; exact DataW.trod_lt m _ _ _ hm
  obtain ⟨g0, rfl⟩ := open_geo (hval 0 23 v0 rfl rfl) h0
  obtain ⟨a1, rfl, rfl, rfl, w1⟩ := open_int Tryd.underlying3 (hval 1 3 v1 rfl rfl) h1
  obtain ⟨a2, rfl, rfl, rfl, w2⟩ := open_string Tryd.underlying9 (hval 2 9 v2 rfl rfl) h2
  clear hA0 hval0
  refine (walk g0 a1 a2 W w1 w2 (met_of_laid hL)).mono fun e W' ⟨he, bel⟩ => ?_
  subst he
  exact ⟨_, rfl, _, _, _, [], _, [], hW', trodAll_mk1 (shut_bool Tryd.underlying4 _), (trodAll_cons_mk (Below.trod laidOut (by kernel_rfl) (of_decide_eq_true (by kernel_rfl)) k0 bel lt0) (trodAll_cons_mk (shut_int Tryd.underlying3 w1) (trodAll_cons_mk (shut_string Tryd.underlying9 w2) trodAll_mk0))), rfl, bel.frame _, fun h => by cases h⟩

theorem over : Rows.superTellsRow.holds Tryd.pinned (OpenSpec.ofChange Rows.superTellsSpec) :=
  OpenClaim.holds_of_wide 3 Tryd.f3 rfl rfl rfl rfl rfl rfl rfl ⟨rfl, rfl, rfl, rfl, rfl⟩ rfl rfl rfl rfl rfl (by kernel_rfl) Tryd.func3 (by kernel_rfl)
    (of_decide_eq_true (by kernel_rfl)) (by unfold Func.isWrapper; first | (rw [if_pos (by decide +kernel)]; kernel_rfl) | (rw [if_neg (by decide +kernel)]; exact ⟨rfl, rfl⟩))
    (fun os started H enc _ => lifted os started H enc)

/-- The statement. -/
theorem proved : Rows.SuperTellsSaid := over
#print axioms proved

/-- THE TIED CARD. -/
theorem card : Rows.SuperTellsCardSaid :=
  Claim7.holds_tied_plain_at .later [] [.data] true (true, "3cb45ea245c34bde2fcc8e65605bbc01081f3f8c8232fc1b05926c495b85c050") false
    proved (fun _ h => by cases h) (by kernel_rfl) (fun _ h => by cases h) superTells_row_tie rfl ⟨rfl, rfl⟩ (by kernel_rfl) rfl
    (fun f fn hf hfn => by
      obtain rfl : f = 3 := Option.some.inj ((show Tryd.prog.funcNamed "breakwater/breakwaterlaw05.SuperTells" = some 3 by kernel_rfl).symm.trans hf) |>.symm
      obtain rfl : fn = Tryd.f3 := (Option.some.inj (Tryd.func3.symm.trans hfn)).symm
      exact ⟨by kernel_rfl, fun j t ht => by
        rw [Tryd.params3] at ht
        have hm : t ∈ [23, 3, 9] := by simpa using Array.mem_of_getElem? ht
        have hall : ([23, 3, 9].all fun u => !Tryd.prog.wantsStandIn u) = true := by kernel_rfl
        exact (show Tryd.prog.wantsStandIn t = false by simpa using List.all_eq_true.1 hall t hm)⟩)
    (by kernel_rfl)
#print axioms card
end Go.Proofs.YtaegkpfjopajpaaDoor.superTells
