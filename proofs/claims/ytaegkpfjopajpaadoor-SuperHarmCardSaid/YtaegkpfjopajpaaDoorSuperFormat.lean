/-
  super: a device's sectors at first, laid by a range over the iterator: by contract.
-/
import Derived.Test.YtaegkpfjopajpaaDoorSuperRead
import Derived.Test.YtaegkpfjopajpaaDoorSuperRefs
import Derived.Test.YtaegkpfjopajpaaDoorSuperSpots
import Derived.Test.YtaegkpfjopajpaaDoorGeoBytes
namespace Go.Proofs.YtaegkpfjopajpaaDoor
open Go.RowKit Go.Shelf
set_option linter.unusedVariables false
set_option linter.unusedSimpArgs false
attribute [local go_sem] Oper.semAt_some

/-- 'make([]T, n)', all of it there, behind a fence. -/
theorem wpListIn_make_full {F : Fence} {fn : Nat} {P : Program} (w : World) {ops : Array Oper} {rest : List Oper} {o : Oper} {a : Act} {Q : Exit → Act → World → Prop}
    (hg : o.guard = none) (l c : Operand) (t : TypeId) (hop : o.op = Op.makeSlice t l c)
    (base : Nat) (e : TypeId) (i : TypeInfo) (z : Value) (size : Nat) (h1 : P.underlying t = some (.slice e)) (h2 : P.info? e = some i) (h3 : i.zero = some z) (h4 : i.size = size)
    (kl kc : IntKind) (L C : Int) (n : Nat) (hl : a.eval l = .int kl L) (hc : a.eval c = .int kc C) (hL : L = (n : Int)) (hC : C = (n : Int)) (b2 : i.bytes * n ≤ 281474976710656) (b3 : n ≤ maxLen) (b4 : base ≤ w.heap.size)
    (hK : ∀ w', w'.ownsRow base e size (.slice (some ⟨w.heap.size, 0, none⟩) n n) n (madeCells z.cells (n * size)).toList → w.grownBy w' none → wpListIn F fn P ops Q rest (a.put o.dst (.slice (some ⟨w.heap.size, 0, none⟩) n n)) w') :
    wpListIn F fn P ops Q (o :: rest) a w := by
  refine wpListIn_plain hg fun K hK' => ?_
  obtain ⟨w', hrun, r1, r2⟩ := run_make_full (P := P) w base t e i z size h1 h2 h3 h4 kl kc n b2 b3 b4
  subst hL
  subst hC
  unfold Oper.wpIn
  refine ⟨?_, ?_⟩
  · simp [Oper.about, hop]
  · rw [Oper.semAt_plain F _ _ (by rw [hop]; intro c hc'; cases hc')]
    simp [execOp, hop, hl, hc, hrun, Result.andThen]
    exact hK' _ _ (hK w' r1 r2)

theorem row_kept {base size k : Nat} {e : TypeId} {v : Value} {xs : List Value} {X Y : World} {row : Option Nat} (hr : X.ownsRow base e size v k xs) (hg : X.grownBy Y row)
    (hrow : ∀ r, row = some r → ∃ o : Obj, X.heap[r]? = some o ∧ o.isCells = false) : Y.ownsRow base e size v k xs := by
  refine hr.kept hg ?_
  rcases hr.2 with ⟨rfl, _⟩ | ⟨g, cap, cur, rfl, _, hgb, _⟩
  · exact .inl rfl
  · refine .inr fun e' => ?_
    obtain ⟨o, ho, hc⟩ := hrow g (by simpa [Value.ownBlock] using e'.symm)
    rw [hgb] at ho
    cases ho
    cases hc
theorem Blk.kept {X Y : World} {row : Option Nat} {b : Nat} {cs : Array Value} {T : TypeId} (h : Blk X b cs T) (hg : X.grownBy Y row)
    (hrow : ∀ r, row = some r → ∃ o : Obj, X.heap[r]? = some o ∧ o.isCells = false) : Blk Y b cs T := by
  refine (hg.block b h.lt (fun e => ?_)).trans h
  obtain ⟨o, ho, hc⟩ := hrow b e.symm
  rw [show X.heap[b]? = _ from h] at ho
  cases ho
  cases hc

theorem infoString : (Tryd.prog.info? 9).map (fun i => (i.zero, i.size, i.bytes)) = some (some (.string ⟨#[]⟩), 1, 16) := by kernel_rfl

set_option maxRecDepth 100000 in
set_option maxHeartbeats 1000000 in
theorem Format_no (g : G) (w : World) (hm : mayG g = false) (ht : TabOk w) :
    Calls Tryd.prog 17 #[.agg #[.int .i64 g.N, .int .i64 g.S, .int .i64 g.B, .int .i64 g.P, .int .i64 g.J, .int .i64 g.L, .int .i64 g.E, .int .i64 g.T]] w fun e w' => e = .returned (.tuple #[.slice none 0 0, .int .i64 40]) ∧ Below w.heap.size w w' := by
  have HO := Lib.hid (bytes_no hm)
  refine (callsIn_wide (n := 6)).1 ?_
  refine callsIn_of_wp_marks Tryd.func17 rfl trivial ?_ rfl
  simp only [Tryd.ntmps17, List.size_toArray, List.length_cons, List.length_nil, Nat.reduceAdd, Nat.reduceSub, Array.replicate_succ, Array.replicate_zero, List.push_toArray, List.append_toArray, List.nil_append, List.cons_append]
  gi_wp2_with (refine ⟨trivial, ?_⟩; gi_at_call 8; refine (callsIn_wide.2 (Bytes_any g _ (ht.alloc _))).mono ?_; rintro e w1 ⟨rfl, hb1⟩; rw [HO.out.1, HO.out.2]; have hb01 := boxed hb1)
  exact ⟨_, results_tmp2 rfl _ _ _, rfl, hb01.alloc hb01.size _⟩

/-- What the loop holds. -/
def FmtI (g : G) (w : World) (bf be rb bl : Nat) (pre : List (Fin (totN g))) (W : World) : Prop :=
  Blk W bf #[.string (supS g)] 9 ∧ Blk W be #[.string (headS 0)] 9 ∧ Blk W bl #[.slice (some ⟨rb, 0, none⟩) (totN g) (totN g)] 34 ∧
  W.ownsRow w.heap.size 9 1 (.slice (some ⟨rb, 0, none⟩) (totN g) (totN g)) (totN g) (strV (mixF g (pre.map Fin.val))) ∧ Below w.heap.size w W
theorem FmtI.own (g : G) (w : World) (bf be rb bl B : Nat) (hB : w.heap.size ≤ B) : OwnFrom B (FmtI g w bf be rb bl) := fun s X Y row hs hg hr => by
  obtain ⟨h1, h2, h3, h4, h5⟩ := hs
  have hr' := fun r e => (hr r e).2
  exact ⟨h1.kept hg hr', h2.kept hg hr', h3.kept hg hr', row_kept h4 hg hr', h5.grown hg h5.size (fun k e => Nat.le_trans hB (hr k e).1)⟩

set_option maxRecDepth 100000 in
set_option maxHeartbeats 2000000 in
theorem Format_yes (g : G) (w : World) (hm : mayG g = true) (ht : TabOk w) :
    Calls Tryd.prog 17 #[.agg #[.int .i64 g.N, .int .i64 g.S, .int .i64 g.B, .int .i64 g.P, .int .i64 g.J, .int .i64 g.L, .int .i64 g.E, .int .i64 g.T]] w fun e w' => ∃ A c, e = .returned (.tuple #[.slice A (totN g) c, .int .i64 0]) ∧ Below w.heap.size w w' ∧ w'.ownsRow w.heap.size 9 1 (.slice A (totN g) c) (totN g) (strV (fmtL g)) := by
  have HO := Lib.hid (bytes_yes hm)
  have HH : Hid (headV' 0 = headS 0 ∧ headE 0 = 0) := ⟨rfl, rfl⟩
  obtain ⟨hT, hTb⟩ := total_bd g
  have HT := Lib.hid hT
  obtain ⟨i0, hi, hz0, hz1, hz2⟩ := info_parts infoString
  have HR0 := RR.start g w
  clear hT
  refine (callsIn_wide (n := 6)).1 ?_
  refine callsIn_of_wp_marks Tryd.func17 rfl trivial ?_ rfl
  simp only [Tryd.ntmps17, List.size_toArray, List.length_cons, List.length_nil, Nat.reduceAdd, Nat.reduceSub, Array.replicate_succ, Array.replicate_zero, List.push_toArray, List.append_toArray, List.nil_append, List.cons_append]
  gi_wp2_with (first
    | (refine ⟨trivial, ?_⟩; gi_at_call 8; refine (callsIn_wide.2 (Bytes_any g _ (ht.alloc _))).mono ?_; rintro e w1 ⟨rfl, hb1⟩; rw [HO.out.1, HO.out.2]
       have hR1 := HR0.call hb1
       have ht1 := ht.below hR1.1
       have kf1 := Blk.new w1 #[.string (supS g)] 9
       clear hb1)
    | (refine ⟨trivial, ?_⟩; gi_at_call 12; refine (callsIn_wide.2 (Head_any 0 _ (ht1.alloc _))).mono ?_; rintro e w2 ⟨rfl, hb2⟩; rw [HH.out.1, HH.out.2]
       have hR2 := (hR1.alloc _).call hb2
       have kf2 := kf1.below hb2 kf1.lt
       have ke2 := Blk.new w2 #[.string (headS 0)] 9
       have hG2 := (hR2.alloc (.cells #[.string (headS 0)] 9)).2.1
       unfold GAt at hG2
       obtain ⟨a0, a1, a2, a3, a4, a5, a6, a7⟩ := hG2
       clear hb2 kf1 hR1 ht1)
    | (refine ⟨trivial, ?_⟩; gi_at_call 34; refine (callsIn_wide.2 (total_g g _)).mono ?_; rintro e w3 ⟨rfl, hb3⟩; rw [HT.out]
       have hR3 := (hR2.alloc _).call hb3
       have kf3 := (kf2.alloc _).below hb3 (kf2.alloc _).lt
       have ke3 := ke2.below hb3 ke2.lt
       clear hb3 kf2 ke2 hR2 a0 a1 a2 a3 a4 a5 a6 a7)
    | (gi_at_make; refine wpListIn_make_full _ rfl _ _ 34 rfl w.heap.size 9 i0 (.string ⟨#[]⟩) 1 Tryd.underlying34 hi hz0 hz1 .i64 .i64 _ _ (totN g) rfl rfl rfl rfl (by rw [hz2]; omega) (by unfold maxLen; omega) hR3.1.size ?_; intro w4 hown4 hg4
       have hb4 : Below w3.heap.size w3 w4 := ⟨hg4.os, hg4.tape, hg4.output, hg4.size, fun k hk => hg4.block k hk (by simp)⟩
       have hR4 := hR3.call hb4
       have kf4 := kf3.below hb4 kf3.lt
       have ke4 := ke3.below hb4 ke3.lt
       have hne : Hid (w1.heap.size ≠ w3.heap.size ∧ w2.heap.size ≠ w3.heap.size) := by have h1 := kf3.lt; have h2 := ke3.lt; exact ⟨by omega, by omega⟩
       have hG4 := (hR4.alloc (.cells #[.slice (some ⟨w3.heap.size, 0, none⟩) (totN g) (totN g)] 34)).2.1
       unfold GAt at hG4
       obtain ⟨a0, a1, a2, a3, a4, a5, a6, a7⟩ := hG4
       clear kf3 ke3 hg4)
    | (refine ⟨trivial, ?_⟩; gi_at_call 35; refine (callsIn_wide.2 (spots_any g _)).mono ?_; rintro e w5 ⟨rfl, rfl⟩))
  have hl4 : w3.heap.size < w4.heap.size := (hown4.lt w3.heap.size rfl).2
  have hf3 : w1.heap.size < w4.heap.size := kf4.lt
  have he3 : w2.heap.size < w4.heap.size := ke4.lt
  have hne1 : w1.heap.size ≠ w3.heap.size := hne.out.1
  have hne2 : w2.heap.size ≠ w3.heap.size := hne.out.2
  have hB4 := hR4.1
  have hw4 := hR4.1.size
  have hsz : ((w4.alloc (.cells #[.slice (some ⟨w3.heap.size, 0, none⟩) (totN g) (totN g)] 34)).alloc (.cells #[.int .i64 g.N, .int .i64 g.S, .int .i64 g.B, .int .i64 g.P, .int .i64 g.J, .int .i64 g.L, .int .i64 g.E, .int .i64 g.T] 23)).heap.size = w4.heap.size + 2 := by simp
  have hI0 : FmtI g w w1.heap.size w2.heap.size w3.heap.size w4.heap.size [] ((w4.alloc (.cells #[.slice (some ⟨w3.heap.size, 0, none⟩) (totN g) (totN g)] 34)).alloc (.cells #[.int .i64 g.N, .int .i64 g.S, .int .i64 g.B, .int .i64 g.P, .int .i64 g.J, .int .i64 g.L, .int .i64 g.E, .int .i64 g.T] 23)) := by
    refine ⟨(kf4.alloc _).alloc _, (ke4.alloc _).alloc _, (Blk.new w4 _ _).alloc _, ?_, (hB4.alloc hw4 _).alloc (by simp; omega) _⟩
    have h := (hown4.alloc (.cells #[.slice (some ⟨w3.heap.size, 0, none⟩) (totN g) (totN g)] 34)).alloc (.cells #[.int .i64 g.N, .int .i64 g.S, .int .i64 g.B, .int .i64 g.P, .int .i64 g.J, .int .i64 g.L, .int .i64 g.E, .int .i64 g.T] 23)
    have e : (madeCells (Value.string ⟨#[]⟩).cells (totN g * 1)).toList = strV (mixF g (([] : List (Fin (totN g))).map Fin.val)) := by
      rw [Nat.mul_one]
      show (madeCells #[Value.string ⟨#[]⟩] (totN g)).toList = _
      rw [toList_madeCells_one, List.map_nil, mixF_nil, strV, List.map_replicate]
    rw [e] at h
    exact h
  have hGB : GAt g (w4.heap.size + 1) ((w4.alloc (.cells #[.slice (some ⟨w3.heap.size, 0, none⟩) (totN g) (totN g)] 34)).alloc (.cells #[.int .i64 g.N, .int .i64 g.S, .int .i64 g.B, .int .i64 g.P, .int .i64 g.J, .int .i64 g.L, .int .i64 g.E, .int .i64 g.T] 23)) := by
    have h := Blk.new (w4.alloc (.cells #[.slice (some ⟨w3.heap.size, 0, none⟩) (totN g) (totN g)] 34)) #[.int .i64 g.N, .int .i64 g.S, .int .i64 g.B, .int .i64 g.P, .int .i64 g.J, .int .i64 g.L, .int .i64 g.E, .int .i64 g.T] 23
    simp only [World.size_alloc] at h
    exact ⟨h.cell 0 _ rfl, h.cell 1 _ rfl, h.cell 2 _ rfl, h.cell 3 _ rfl, h.cell 4 _ rfl, h.cell 5 _ rfl, h.cell 6 _ rfl, h.cell 7 _ rfl⟩
  clear a0 a1 a2 a3 a4 a5 a6 a7 hown4 kf4 ke4 hb4 hR3 hR4 HR0 hB4
  generalize (w4.alloc (.cells #[.slice (some ⟨w3.heap.size, 0, none⟩) (totN g) (totN g)] 34)).alloc (.cells #[.int .i64 g.N, .int .i64 g.S, .int .i64 g.B, .int .i64 g.P, .int .i64 g.J, .int .i64 g.L, .int .i64 g.E, .int .i64 g.T] 23) = W0 at *
  refine wpIn_rangeFunc_ownG rfl (by omega) (gf := 53) (lb := #[.pointer (some ⟨w4.heap.size + 1, 0, none⟩)]) rfl trivial (enters_of Tryd.func53 (by kernel_rfl) rfl)
    (spots_stops g _ (by omega) (w4.heap.size + 1) W0 (by omega) hGB) KeepB.trans (keepB_b (by omega)) (Below.refl _ _) (fun _ => rfl)
    (FmtI g w w1.heap.size w2.heap.size w3.heap.size w4.heap.size) (fun _ _ _ => False)
    (FmtI.own g w _ _ _ _ _ (by omega)) (fun _ _ _ _ _ hs _ _ => hs) hI0
    (fun x => { tmps := #[.agg #[.int .i64 g.N, .int .i64 g.S, .int .i64 g.B, .int .i64 g.P, .int .i64 g.J, .int .i64 g.L, .int .i64 g.E, .int .i64 g.T], .pointer (some ⟨w.heap.size, 0, none⟩), .slice none 0 0, .int .i64 0, .pointer (some ⟨w1.heap.size, 0, none⟩), .int .i64 0, .pointer (some ⟨w2.heap.size, 0, none⟩), .int .i64 0, .pointer (some ⟨w4.heap.size, 0, none⟩), .int .i64 ((x.1 : Nat) : Int), .int .i8 (whatV g ((x.1 : Nat) : Int)).k, .tuple #[.string (supS g), .int .i64 0], .agg #[.int .i64 g.N, .int .i64 g.S, .int .i64 g.B, .int .i64 g.P, .int .i64 g.J, .int .i64 g.L, .int .i64 g.E, .int .i64 g.T], .tuple #[.string (supS g), .int .i64 0], .string (supS g), .int .i64 0, .int .i64 0, .bool false, undef, .tuple #[.string (headS 0), .int .i64 0], .tuple #[.string (headS 0), .int .i64 0], .string (headS 0), .int .i64 0, .agg #[.int .i64 g.N, .int .i64 g.S, .int .i64 g.B, .int .i64 g.P, .int .i64 g.J, .int .i64 g.L, .int .i64 g.E, .int .i64 g.T], .int .i64 ((totN g : Nat) : Int), .slice (some ⟨w3.heap.size, 0, none⟩) (totN g) (totN g), .agg #[.int .i64 g.N, .int .i64 g.S, .int .i64 g.B, .int .i64 g.P, .int .i64 g.J, .int .i64 g.L, .int .i64 g.E, .int .i64 g.T], .func (.func 53) #[] #[.pointer (some ⟨w4.heap.size + 1, 0, none⟩)], .int .i64 ((x.1 : Nat) : Int), .int .i8 (whatV g ((x.1 : Nat) : Int)).k, undef, undef, undef, undef, undef, undef, undef, undef, undef, undef, undef, undef, undef, undef], defers := [] }) ?assign ?body ?done ?stop
  case assign =>
    intro l x W K hK
    dsimp only [spotV]
    gi_wp2
    exact hK
  case body =>
    rintro l pre ⟨i, hi'⟩ W ⟨hbf, hbe, hbl, hown, hbw⟩ _
    have cf := hbf.cell 0 _ rfl
    have ce := hbe.cell 0 _ rfl
    have cl := hbl.cell 0 _ rfl
    have fi := hown.frozenAt i
    have hci := hown.cellAt i (by omega)
    obtain ⟨y, hy⟩ : ∃ y, (mixF g (pre.map Fin.val))[i]? = some y := ⟨_, List.getElem?_eq_getElem (by rw [mixF_length]; exact hi')⟩
    rw [strV, List.getElem?_map, hy] at hci
    have hci : W.cell? ⟨w3.heap.size, i, none⟩ = some (.string y) := hci
    have hst : ∀ v, _ := fun v => hown.stored i v
    have HS : ∀ s, fmtAt g i = s → FmtI g w w1.heap.size w2.heap.size w3.heap.size w4.heap.size (pre ++ [⟨i, hi'⟩]) (W.setCell ⟨w3.heap.size, i, none⟩ (.string s)) := by
      rintro s rfl
      refine ⟨hbf.other hne1 _ _, hbe.other hne2 _ _, hbl.other (by omega) _ _, ?_, hbw.grown (hst _).2 hbw.size (fun k hk => (hown.lt k hk).1)⟩
      have h := (hst (.string (fmtAt g i))).1
      rw [strV, ← List.map_set, mixF_set g _ hi'] at h
      rw [List.map_append]
      exact h
    have HN : fmtAt g i = ⟨#[]⟩ → FmtI g w w1.heap.size w2.heap.size w3.heap.size w4.heap.size (pre ++ [⟨i, hi'⟩]) W := by
      intro h0
      refine ⟨hbf, hbe, hbl, ?_, hbw⟩
      rw [List.map_append]
      rw [mixF_same _ h0] at hown
      exact hown
    have HS := Lib.hid HS
    have HN := Lib.hid HN
    have HF1 := Lib.hid (fmt_super (g := g) (i := i))
    have HF5 := Lib.hid (fmt_head (g := g) (i := i))
    have HFO := Lib.hid (fmt_other (g := g) (i := i))
    clear hy hst hbf hbe hbl hown hbw hI0 hGB
    dsimp only
    generalize (whatV g ((i : Nat) : Int)).k = k at *
    by_cases hk1 : k = 1
    · have hv := HS.out _ (HF1.out hk1)
      clear HF1 HF5 HFO HN HS
      subst hk1
      gi_wp2
      exact ⟨(KeepsOthers.setCell _ _ _).from _, KeepB.set rfl (by show w3.heap.size ≠ w4.heap.size + 1; omega) _, hv⟩
    · by_cases hk5 : k = 5
      · have hv := HS.out _ (HF5.out hk5)
        clear HF1 HF5 HFO HN HS
        subst hk5
        gi_wp2
        exact ⟨(KeepsOthers.setCell _ _ _).from _, KeepB.set rfl (by show w3.heap.size ≠ w4.heap.size + 1; omega) _, hv⟩
      · have hn := HN.out (HFO.out hk1 hk5)
        have b1 : (k == 1) = false := beq_no hk1
        have b5 : (k == 5) = false := beq_no hk5
        gi_wp2
        exact ⟨KeepsFrom.refl _ _, rfl, hn⟩
  case done =>
    rintro D ys W hD rfl ⟨hbf, hbe, hbl, hown, hbw⟩ hK
    have cl := hbl.cell 0 _ rfl
    have e : (List.finRange (totN g)).map Fin.val = List.range (totN g) := by
      apply List.ext_getElem
      · simp
      · intro i h1 h2
        simp
    rw [e, mixF_all] at hown
    gi_wp2
    refine ⟨by simp, .inl ⟨_, _, rfl, run_takeDeferred hK, ?_⟩⟩
    exact ⟨_, results_tmp2 rfl _ _ _, _, _, rfl, hbw.trans (belowK_b (w := w) (Nat.le_refl _) W D _ _ (by omega) hK rfl rfl), ownsRow_putObj hown _ hK rfl⟩
  case stop =>
    rintro D c pre W _ _ h _
    exact h.elim

end Go.Proofs.YtaegkpfjopajpaaDoor
