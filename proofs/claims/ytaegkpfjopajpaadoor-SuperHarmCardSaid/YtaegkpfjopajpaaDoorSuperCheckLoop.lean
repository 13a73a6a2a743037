/-
  super: whether sectors are a device's: the range over the iterator, whose body may return.
-/
import Derived.Test.YtaegkpfjopajpaaDoorSuperCheckAny
namespace Go.Proofs.YtaegkpfjopajpaaDoor
open Go.RowKit Go.Shelf
set_option linter.unusedVariables false
set_option linter.unusedSimpArgs false
attribute [local go_sem] Oper.semAt_some

theorem ChkS.kept {w : World} {A : Option Addr} {n c : Nat} {g : G} {bt : Nat} {X Y : World} {row : Option Nat} (h : ChkS w A n c g bt X) (hg : X.grownBy Y row)
    (hr : ∀ r, row = some r → w.heap.size ≤ r ∧ ∃ o : Obj, X.heap[r]? = some o ∧ o.isCells = false) : ChkS w A n c g bt Y :=
  have hr' := fun r e => (hr r e).2
  ⟨h.1.kept hg hr', h.2.1.kept hg hr', h.2.2.1.kept hg hr', h.2.2.2.1.kept hg hr', h.2.2.2.2.grown hg h.2.2.2.2.size (fun k e => (hr k e).1)⟩
/-- What the loop holds; how it is left. -/
def ChkI (w : World) (A : Option Addr) (n c : Nat) (g : G) (bt bg : Nat) (l : List ByteArray) (pre : List (Fin (totN g))) (W : World) : Prop :=
  ChkS w A n c g bt W ∧ bg < W.heap.size ∧ ∀ x ∈ pre, fitAt g l x.1 = true
def ChkX (w : World) (l : List ByteArray) {g : G} (cd : Code) (pre : List (Fin (totN g))) (W : World) : Prop :=
  cd = .ret ∧ checkB l = false ∧ Blk W (w.heap.size + 1) #[.int .i64 0, .int .i64 0, .int .i64 0, .int .i64 0, .int .i64 0, .int .i64 0, .int .i64 0, .int .i64 0] 23 ∧ Blk W (w.heap.size + 2) #[.int .i64 50] 25 ∧ Below w.heap.size w W
theorem ChkI.own (w : World) (A : Option Addr) (n c : Nat) (g : G) (bt bg : Nat) (l : List ByteArray) (B : Nat) (hB : w.heap.size ≤ B) : OwnFrom B (ChkI w A n c g bt bg l) := fun s X Y row hs hg hr =>
  ⟨hs.1.kept hg (fun r e => ⟨Nat.le_trans hB (hr r e).1, (hr r e).2⟩), Nat.lt_of_lt_of_le hs.2.1 hg.size, hs.2.2⟩
theorem ChkX.own (w : World) (l : List ByteArray) {g : G} (cd : Code) (B : Nat) (hB : w.heap.size ≤ B) : OwnFrom B (ChkX w l (g := g) cd) := fun s X Y row hs hg hr =>
  ⟨hs.1, hs.2.1, hs.2.2.1.kept hg (fun r e => (hr r e).2), hs.2.2.2.1.kept hg (fun r e => (hr r e).2), hs.2.2.2.2.grown hg hs.2.2.2.2.size (fun k e => Nat.le_trans hB (hr k e).1)⟩
theorem Blk.put {W : World} {b D : Nat} {cs : Array Value} {T : TypeId} (h : Blk W b cs T) (hne : b < D) (o : Obj) : Blk (W.putObj D o) b cs T :=
  Eq.trans (World.putObj_heap_other (by omega)) h

/-- All fit, or one does not. -/
theorem check_all {l : List ByteArray} (hf : firstOk l = true) (h : ∀ i, i < l.length → fitAt (readG (l.getD 0 ⟨#[]⟩)) l i = true) : checkB l = true := by
  unfold checkB
  rw [hf, Bool.true_and, List.all_eq_true]
  intro i hi
  exact h i (List.mem_range.1 hi)
theorem check_bad {l : List ByteArray} {i : Nat} (hi : i < l.length) (h : fitAt (readG (l.getD 0 ⟨#[]⟩)) l i = false) : checkB l = false := by
  rcases hc : checkB l with _ | _
  · rfl
  · unfold checkB at hc
    rw [Bool.and_eq_true, List.all_eq_true] at hc
    rw [hc.2 i (List.mem_range.2 hi)] at h
    cases h
theorem first_yes {l : List ByteArray} (h0 : 0 < l.length) (h1 : readB (l.getD 0 ⟨#[]⟩) = true) (h2 : l.length = totN (readG (l.getD 0 ⟨#[]⟩))) : firstOk l = true := by
  unfold firstOk
  rw [h1, decide_eq_true h0, decide_eq_true h2]
  rfl

set_option maxRecDepth 100000 in
set_option maxHeartbeats 1000000 in
theorem Check_loop (A : Option Addr) (n c : Nat) (l : List ByteArray) (w : World) (hn0 : 0 < n) (hA : Lies w w.heap.size A n (strV l)) (hs : ∀ s ∈ l, s.size ≤ maxLen) (hn : n ≤ maxLen) (ht : TabOk w)
    (hr : readB (l.getD 0 ⟨#[]⟩) = true) (hcount : l.length = totN (readG (l.getD 0 ⟨#[]⟩))) :
    Calls Tryd.prog 19 #[.slice A n c] w fun e w' => e = .returned (.tuple #[.agg #[.int .i64 (checkG l).N, .int .i64 (checkG l).S, .int .i64 (checkG l).B, .int .i64 (checkG l).P, .int .i64 (checkG l).J, .int .i64 (checkG l).L, .int .i64 (checkG l).E, .int .i64 (checkG l).T], .int .i64 (checkE l)]) ∧ Below w.heap.size w w' := by
  have hl : l.length = n := by simpa [strV] using hA.1
  have hmem : l.getD 0 ⟨#[]⟩ ∈ l := by
    rw [List.getD, List.getElem?_eq_getElem (by omega)]
    exact List.getElem_mem _
  have hs0 := hs _ hmem
  have HR := Lib.hid (readG_yes hr).2
  have hfirst := Lib.hid (first_yes (by omega) hr hcount)
  have HBAD := Lib.hid (fun i => check_bad (l := l) (i := i))
  have HALL := Lib.hid (check_all hfirst.out)
  have hne : ((n : Int) != ((totN (readG (l.getD 0 ⟨#[]⟩)) : Nat) : Int)) = false := by rw [bne_eq_false_iff_eq]; omega
  have HCNT : Hid (n = totN (readG (l.getD 0 ⟨#[]⟩))) := hl.symm.trans hcount
  have HYES := Lib.hid (fun h => check_yes (l := l) h)
  have HNO := Lib.hid (fun h => check_no (l := l) h)
  have HFIT : Hid (∀ i, fitAt (readG (l.getD 0 ⟨#[]⟩)) l i = fitB (whatV (readG (l.getD 0 ⟨#[]⟩)) i).k (l.getD i ⟨#[]⟩)) := fun i => rfl
  clear hcount
  obtain ⟨ad, rfl, hc0⟩ := str_at hA hn0 (by omega)
  have hlt : ad.block < w.heap.size := by
    obtain ⟨ad', h1, h2, _⟩ := hA.2 hn0
    cases h1
    exact h2
  have hc : (ChkW w (some ad) n c).cell? ad = some (.string (l.getD 0 ⟨#[]⟩)) := by
    have h := ((chkW_below w (some ad) n c).cell (p := ad) hlt).trans (show w.cell? ad = _ by simpa [Addr.add] using hc0)
    rw [h, List.getD, List.getElem?_eq_getElem (by omega)]
    rfl
  have htc := ht.below (chkW_below w (some ad) n c)
  have HC : Hid (ChkW w (some ad) n c = ((w.alloc (.cells #[.slice (some ad) n c] 34)).alloc (.cells #[.int .i64 0, .int .i64 0, .int .i64 0, .int .i64 0, .int .i64 0, .int .i64 0, .int .i64 0, .int .i64 0] 23)).alloc (.cells #[.int .i64 0] 25)) := rfl
  rw [HC.out] at hc
  have HSZ : Hid (∀ i, (l.getD i ⟨#[]⟩).size ≤ maxLen) := by
    intro i
    by_cases h : i < l.length
    · rw [List.getD, List.getElem?_eq_getElem h]
      exact hs _ (List.getElem_mem _)
    · rw [List.getD, List.getElem?_eq_none (by omega)]
      exact Nat.zero_le _
  have HA := Lib.hid hA
  have HT := Lib.hid ht
  unfold maxLen at hn
  clear hmem hc0 hA hs hr ht hfirst
  generalize hs0e : l.getD 0 ⟨#[]⟩ = s0 at *
  refine (callsIn_wide (n := 6)).1 ?_
  refine callsIn_of_wp_marks Tryd.func19 rfl trivial ?_ rfl
  refine wpIn_wide.2 ?_
  simp only [Tryd.ntmps19, List.size_toArray, List.length_cons, List.length_nil, Nat.reduceAdd, Nat.reduceSub, Array.replicate_succ, Array.replicate_zero, List.push_toArray, List.append_toArray, List.nil_append, List.cons_append]
  go_wp2_with fail
  rw [← HC.out]
  refine (Read_any s0 _ hs0 htc).mono ?_
  rintro e w1 ⟨rfl, hb1⟩
  rw [HR.out]
  have hS := (chk_begin (some ad) n c (readG s0) hb1).drew
  have hN0 := chk_of hS
  generalize readG s0 = g at *
  generalize hbt : w1.heap.size = bt at *
  clear hc htc hb1
  go_upto_region 4 with fail
  clear hS
  go_region_held3 (fun W => W.cell? ⟨bt, 0, none⟩ = some (.int .i64 g.N) ∧ W.cell? ⟨bt, 1, none⟩ = some (.int .i64 g.S) ∧ W.cell? ⟨bt, 2, none⟩ = some (.int .i64 g.B) ∧ W.cell? ⟨bt, 3, none⟩ = some (.int .i64 g.P) ∧ W.cell? ⟨bt, 4, none⟩ = some (.int .i64 g.J) ∧ W.cell? ⟨bt, 5, none⟩ = some (.int .i64 g.L) ∧ W.cell? ⟨bt, 6, none⟩ = some (.int .i64 g.E) ∧ W.cell? ⟨bt, 7, none⟩ = some (.int .i64 g.T) ∧ W.cell? ⟨w.heap.size, 0, none⟩ = some (.slice (some ad) n c) ∧ ChkS w (some ad) n c g bt W) (first | assumption) (first
    | (go_at_call 34; (with_reducible refine (cTotal w (some ad) n c g bt _ ?_).mono ?_); assumption; rintro e W2 ⟨rfl, hN⟩))
  have hS := of_chk hN
  obtain ⟨a0, a1, a2, a3, a4, a5, a6, a7, a8, -⟩ := hN
  clear hN0 HC HR hs0
  go_wp2_with fail
  refine (spots_any g _).mono ?_
  rintro e w5 ⟨rfl, rfl⟩
  go_wp2_with fail
  have hw2 := hS.2.2.2.2.size
  have hS0 := hS.call ((Below.refl _ _).alloc (Nat.le_refl _) (.cells #[.int .i64 g.N, .int .i64 g.S, .int .i64 g.B, .int .i64 g.P, .int .i64 g.J, .int .i64 g.L, .int .i64 g.E, .int .i64 g.T] 23))
  have hGB : GAt g W2.heap.size (W2.alloc (.cells #[.int .i64 g.N, .int .i64 g.S, .int .i64 g.B, .int .i64 g.P, .int .i64 g.J, .int .i64 g.L, .int .i64 g.E, .int .i64 g.T] 23)) := by
    have h := Blk.new W2 #[.int .i64 g.N, .int .i64 g.S, .int .i64 g.B, .int .i64 g.P, .int .i64 g.J, .int .i64 g.L, .int .i64 g.E, .int .i64 g.T] 23
    exact ⟨h.cell 0 _ rfl, h.cell 1 _ rfl, h.cell 2 _ rfl, h.cell 3 _ rfl, h.cell 4 _ rfl, h.cell 5 _ rfl, h.cell 6 _ rfl, h.cell 7 _ rfl⟩
  have hsz0 : (W2.alloc (.cells #[.int .i64 g.N, .int .i64 g.S, .int .i64 g.B, .int .i64 g.P, .int .i64 g.J, .int .i64 g.L, .int .i64 g.E, .int .i64 g.T] 23)).heap.size = W2.heap.size + 1 := by simp
  have hb0 := hS.1.lt
  have hb1' := hS.2.1.lt
  have hb2' := hS.2.2.1.lt
  have hbt' := hS.2.2.2.1.lt
  clear hS a0 a1 a2 a3 a4 a5 a6 a7 a8
  generalize W2.heap.size = bg at *
  generalize W2.alloc (.cells #[.int .i64 g.N, .int .i64 g.S, .int .i64 g.B, .int .i64 g.P, .int .i64 g.J, .int .i64 g.L, .int .i64 g.E, .int .i64 g.T] 23) = W0 at *
  refine (wpIn_wide (n := 6)).1 ?_
  refine wpIn_rangeFunc_ownG rfl (by omega) (gf := 53) (lb := #[.pointer (some ⟨bg, 0, none⟩)]) rfl trivial (enters_of Tryd.func53 (by kernel_rfl) rfl)
    (spots_stops g _ (by omega) bg W0 (by omega) hGB) KeepB.trans (keepB_b (by omega)) (Below.refl _ _) (fun _ => rfl)
    (ChkI w (some ad) n c g bt bg l) (ChkX w l)
    (ChkI.own w (some ad) n c g bt bg l _ (by omega)) (fun cd => ChkX.own w l cd _ (by omega)) ⟨hS0, by omega, fun x hx => by cases hx⟩
    (fun x => { tmps := #[.slice (some ad) n c, .pointer (some ⟨w.heap.size, 0, none⟩), .pointer (some ⟨w.heap.size + 1, 0, none⟩), .pointer (some ⟨w.heap.size + 1 + 1, 0, none⟩), .pointer (some ⟨bt, 0, none⟩), .int .i64 0, .int .i64 ((x.1 : Nat) : Int), .int .i8 (whatV g ((x.1 : Nat) : Int)).k,
      .slice (some ad) n c, .int .i64 (n : Int), .bool false, undef, .tuple #[.agg #[.int .i64 g.N, .int .i64 g.S, .int .i64 g.B, .int .i64 g.P, .int .i64 g.J, .int .i64 g.L, .int .i64 g.E, .int .i64 g.T], .int .i64 0], .slice (some ad) n c, .pointer (some ad), .string s0, .tuple #[.agg #[.int .i64 g.N, .int .i64 g.S, .int .i64 g.B, .int .i64 g.P, .int .i64 g.J, .int .i64 g.L, .int .i64 g.E, .int .i64 g.T], .int .i64 0], .agg #[.int .i64 g.N, .int .i64 g.S, .int .i64 g.B, .int .i64 g.P, .int .i64 g.J, .int .i64 g.L, .int .i64 g.E, .int .i64 g.T], .int .i64 0, .int .i64 0, .bool false, .bool false,
      .slice (some ad) n c, .int .i64 (n : Int), .agg #[.int .i64 g.N, .int .i64 g.S, .int .i64 g.B, .int .i64 g.P, .int .i64 g.J, .int .i64 g.L, .int .i64 g.E, .int .i64 g.T], .int .i64 ((totN g : Nat) : Int), .bool false, .bool false, undef, .agg #[.int .i64 g.N, .int .i64 g.S, .int .i64 g.B, .int .i64 g.P, .int .i64 g.J, .int .i64 g.L, .int .i64 g.E, .int .i64 g.T], .func (.func 53) #[] #[.pointer (some ⟨bg, 0, none⟩)], .int .i64 ((x.1 : Nat) : Int), .int .i8 (whatV g ((x.1 : Nat) : Int)).k,
      undef, undef, undef, undef, undef, undef, undef, undef, undef], defers := [] }) ?assign ?body ?done ?stop
  case assign =>
    intro l x W K hK
    dsimp only [spotV]
    gi_wp2
    exact hK
  case body =>
    rintro l' pre ⟨i, hi'⟩ W ⟨hS, hbgW, hall⟩ _
    have hi : i < n := by have := hne; rw [bne_eq_false_iff_eq] at this; omega
    have hHA := HA.out.below hS.2.2.2.2
    obtain ⟨ad', e1, hci⟩ := str_at hHA hi (by omega)
    cases e1
    replace hci : W.cell? (ad.add i) = some (.string (l.getD i ⟨#[]⟩)) := by
      rw [hci, List.getD, List.getElem?_eq_getElem (by omega)]
      rfl
    have cs := hS.1.cell 0 _ rfl
    have hfit := HFIT.out i
    have hszi := HSZ.out i
    have htW := HT.out.below hS.2.2.2.2
    have hbad : fitAt g l i = false → checkB l = false := HBAD.out i (by omega)
    have hallx : fitAt g l i = true → ∀ x ∈ pre ++ [⟨i, hi'⟩], fitAt g l x.1 = true := fun h x hx => by
      rcases List.mem_append.1 hx with h1 | h1
      · exact hall x h1
      · rw [List.mem_singleton] at h1
        subst h1
        exact h
    have hS := Lib.hid hS
    have hbad := Lib.hid hbad
    have hallx := Lib.hid hallx
    clear HBAD HALL HYES HNO HFIT HSZ HA HT hall hHA hS0 hGB
    dsimp only
    generalize (whatV g ((i : Nat) : Int)).k = k at *
    generalize l.getD i ⟨#[]⟩ = s at *
    rcases hF : fitB k s with _ | _
    · have hno := Lib.hid (hbad.out (hfit.trans hF))
      clear hallx hbad hfit
      gi_wp2_with (first
        | (refine ⟨trivial, ?_⟩; gi_at_call 37; refine (CallsIn.inRound l' (callsIn_wide.2 (superFits_any k s _ hszi htW))).mono ?_; rintro e W3 ⟨rfl, hb3⟩; rw [hF]
           have hS3 := hS.out.call hb3
           have hth := hS3.2.1.there
           have HX := Lib.hid hS3.no
           have hKO := (KeepsOthers.of_grownBy (grown_of_below hb3) (fun _ _ e => by cases e)).trans (keepsOthers_cells (b := w.heap.size + 1) [.int .i64 0, .int .i64 0, .int .i64 0, .int .i64 0, .int .i64 0, .int .i64 0, .int .i64 0, .int .i64 0] 0 W3)
           have hKB := keepB_cells (c := w.heap.size + 1) (b := bg) (by omega) [.int .i64 0, .int .i64 0, .int .i64 0, .int .i64 0, .int .i64 0, .int .i64 0, .int .i64 0, .int .i64 0] 0 (KeepB.of_below hb3 hbgW)
           have k2 := hS3.2.2.1.others (b := w.heap.size + 1) (by omega) [.int .i64 0, .int .i64 0, .int .i64 0, .int .i64 0, .int .i64 0, .int .i64 0, .int .i64 0, .int .i64 0] 0
           have c2 : (W3.setCells (w.heap.size + 1) 0 [.int .i64 0, .int .i64 0, .int .i64 0, .int .i64 0, .int .i64 0, .int .i64 0, .int .i64 0, .int .i64 0]).cell? ⟨w.heap.size + 1 + 1, 0, none⟩ = some (.int .i64 0) := k2.cell 0 _ rfl
           have f2 : (W3.setCells (w.heap.size + 1) 0 [.int .i64 0, .int .i64 0, .int .i64 0, .int .i64 0, .int .i64 0, .int .i64 0, .int .i64 0, .int .i64 0]).frozen? ⟨w.heap.size + 1 + 1, 0, none⟩ = false := k2.free 0
           clear hS3 hb3 k2 hS hbgW htW hszi cs hci)
        | (refine wpListIn_store_mid (op := ⟨none, .store 23 _ _, _, _, _, none⟩) rfl 23 _ _ (by rfl) (w.heap.size + 1) 0 #[.int .i64 0, .int .i64 0, .int .i64 0, .int .i64 0, .int .i64 0, .int .i64 0, .int .i64 0, .int .i64 0] (by rfl) (by rfl) hth (by kernel_rfl) (by kernel_rfl) ?_
           show wpListIn _ _ _ _ _ _ _ (W3.setCells (w.heap.size + 1) 0 [.int .i64 0, .int .i64 0, .int .i64 0, .int .i64 0, .int .i64 0, .int .i64 0, .int .i64 0, .int .i64 0])
           generalize W3.setCells (w.heap.size + 1) 0 [.int .i64 0, .int .i64 0, .int .i64 0, .int .i64 0, .int .i64 0, .int .i64 0, .int .i64 0, .int .i64 0] = W4 at *))
      exact ⟨(hKO.trans (KeepsOthers.setCell _ _ _)).from _, rfl, hno.out, HX.out.1, HX.out.2.1, HX.out.2.2⟩
    · have hyes := Lib.hid (hallx.out (hfit.trans hF))
      clear hallx hbad hfit
      gi_wp2_with (refine ⟨trivial, ?_⟩; gi_at_call 37; refine (CallsIn.inRound l' (callsIn_wide.2 (superFits_any k s _ hszi htW))).mono ?_; rintro e W3 ⟨rfl, hb3⟩; rw [hF])
      exact ⟨(KeepsOthers.of_grownBy (grown_of_below hb3) (fun _ _ e => by cases e)).from _, KeepB.of_below hb3 hbgW, hS.out.call hb3, Nat.lt_of_lt_of_le hbgW hb3.size, hyes.out⟩
  case done =>
    rintro D ys W hD rfl ⟨hS, hbgW, hall⟩ hK
    have hb : checkB l = true := HALL.out (fun i hi => hall ⟨i, by have := hne; rw [bne_eq_false_iff_eq] at this; omega⟩ (List.mem_finRange _))
    have HY := Lib.hid (HYES.out hb)
    have hg8 := hS.2.2.2.1
    have e0 := hg8.cell 0 _ rfl
    have e1 := hg8.cell 1 _ rfl
    have e2 := hg8.cell 2 _ rfl
    have e3 := hg8.cell 3 _ rfl
    have e4 := hg8.cell 4 _ rfl
    have e5 := hg8.cell 5 _ rfl
    have e6 := hg8.cell 6 _ rfl
    have e7 := hg8.cell 7 _ rfl
    have hth := hS.2.1.there
    have hP := geo_put hS.2.1 (.int .i64 g.N) (.int .i64 g.S) (.int .i64 g.B) (.int .i64 g.P) (.int .i64 g.J) (.int .i64 g.L) (.int .i64 g.E) (.int .i64 g.T)
    have k2 := hS.2.2.1.others (b := w.heap.size + 1) (by omega) [.int .i64 g.N, .int .i64 g.S, .int .i64 g.B, .int .i64 g.P, .int .i64 g.J, .int .i64 g.L, .int .i64 g.E, .int .i64 g.T] 0
    have c2 : (W.setCells (w.heap.size + 1) 0 [.int .i64 g.N, .int .i64 g.S, .int .i64 g.B, .int .i64 g.P, .int .i64 g.J, .int .i64 g.L, .int .i64 g.E, .int .i64 g.T]).cell? ⟨w.heap.size + 1 + 1, 0, none⟩ = some (.int .i64 0) := k2.cell 0 _ rfl
    have f2 : (W.setCells (w.heap.size + 1) 0 [.int .i64 g.N, .int .i64 g.S, .int .i64 g.B, .int .i64 g.P, .int .i64 g.J, .int .i64 g.L, .int .i64 g.E, .int .i64 g.T]).frozen? ⟨w.heap.size + 1 + 1, 0, none⟩ = false := k2.free 0
    have hKO := keepsOthers_cells (b := w.heap.size + 1) [.int .i64 g.N, .int .i64 g.S, .int .i64 g.B, .int .i64 g.P, .int .i64 g.J, .int .i64 g.L, .int .i64 g.E, .int .i64 g.T] 0 W
    have hBW : Below w.heap.size w (W.setCells (w.heap.size + 1) 0 [.int .i64 g.N, .int .i64 g.S, .int .i64 g.B, .int .i64 g.P, .int .i64 g.J, .int .i64 g.L, .int .i64 g.E, .int .i64 g.T]) := setCells_below _ _ hS.2.2.2.2 (by omega)
    have k2 := Lib.hid k2
    have hP := Lib.hid hP
    clear HALL HYES HNO HBAD HFIT HSZ HA HT hS hall hg8 hS0 hGB
    go_wp2_with (refine wpList_store_mid (op := ⟨none, .store 23 _ _, _, _, _, none⟩) rfl 23 _ _ (by rfl) (w.heap.size + 1) 0 #[.int .i64 g.N, .int .i64 g.S, .int .i64 g.B, .int .i64 g.P, .int .i64 g.J, .int .i64 g.L, .int .i64 g.E, .int .i64 g.T] (by rfl) (by rfl) hth (by kernel_rfl) (by kernel_rfl) ?_
                 show wpList _ _ _ _ _ (W.setCells (w.heap.size + 1) 0 [.int .i64 g.N, .int .i64 g.S, .int .i64 g.B, .int .i64 g.P, .int .i64 g.J, .int .i64 g.L, .int .i64 g.E, .int .i64 g.T])
                 generalize W.setCells (w.heap.size + 1) 0 [.int .i64 g.N, .int .i64 g.S, .int .i64 g.B, .int .i64 g.P, .int .i64 g.J, .int .i64 g.L, .int .i64 g.E, .int .i64 g.T] = W4 at *)
    have hK' := (hKO.trans (KeepsOthers.setCell W4 ⟨w.heap.size + 1 + 1, 0, none⟩ (.int .i64 0))).same D _ hK rfl
    refine ⟨by simp, .inl ⟨_, _, rfl, run_takeDeferred hK', ?_⟩⟩
    exact ⟨_, results_cell_cell (cs := [.int .i64 g.N, .int .i64 g.S, .int .i64 g.B, .int .i64 g.P, .int .i64 g.J, .int .i64 g.L, .int .i64 g.E, .int .i64 g.T]) Tryd.results19 (by rfl) (by rfl) ((hP.out.other (by omega) _ _).put (by omega) _).range Tryd.underlying23 rfl (by kernel_rfl) ((k2.out.set1 (.int .i64 0)).put (by omega) _ |>.cell 0 _ rfl) Tryd.underlying25, by rw [HY.out.1, HY.out.2]; rfl, (hBW.setCell (p := ⟨w.heap.size + 1 + 1, 0, none⟩) (by show w.heap.size ≤ w.heap.size + 1 + 1; omega) _).trans (belowK_b (w := w) (Nat.le_refl _) _ D _ _ (by omega) hK' rfl rfl)⟩
  case stop =>
    rintro D cd pre W hD _ ⟨rfl, hno, hz1, hz2, hBW⟩ hK
    have HN := Lib.hid (HNO.out hno)
    gi_wp2
    refine ⟨by simp, .inl ⟨_, _, rfl, run_takeDeferred hK, ?_⟩⟩
    exact ⟨_, results_cell_cell (cs := [.int .i64 0, .int .i64 0, .int .i64 0, .int .i64 0, .int .i64 0, .int .i64 0, .int .i64 0, .int .i64 0]) Tryd.results19 (by rfl) (by rfl) (hz1.put (by omega) _).range Tryd.underlying23 rfl (by kernel_rfl) ((hz2.put (by omega) _).cell 0 _ rfl) Tryd.underlying25, by rw [HN.out.1, HN.out.2]; rfl, hBW.trans (belowK_b (w := w) (Nat.le_refl _) _ D _ _ (by omega) hK rfl rfl)⟩

set_option maxRecDepth 100000 in
/-- Check: for all rows of texts. -/
theorem Check_any (A : Option Addr) (n c : Nat) (l : List ByteArray) (w : World) (hA : Lies w w.heap.size A n (strV l)) (hs : ∀ s ∈ l, s.size ≤ maxLen) (hn : n ≤ maxLen) (ht : TabOk w) :
    Calls Tryd.prog 19 #[.slice A n c] w fun e w' => e = .returned (.tuple #[.agg #[.int .i64 (checkG l).N, .int .i64 (checkG l).S, .int .i64 (checkG l).B, .int .i64 (checkG l).P, .int .i64 (checkG l).J, .int .i64 (checkG l).L, .int .i64 (checkG l).E, .int .i64 (checkG l).T], .int .i64 (checkE l)]) ∧ Below w.heap.size w w' := by
  have hl : l.length = n := by simpa [strV] using hA.1
  have hno : ∀ e w', checkB l = false → NoPost w e w' → e = .returned (.tuple #[.agg #[.int .i64 (checkG l).N, .int .i64 (checkG l).S, .int .i64 (checkG l).B, .int .i64 (checkG l).P, .int .i64 (checkG l).J, .int .i64 (checkG l).L, .int .i64 (checkG l).E, .int .i64 (checkG l).T], .int .i64 (checkE l)]) ∧ Below w.heap.size w w' := fun e w' h hp => by
    rw [(check_no h).1, (check_no h).2]
    exact hp
  by_cases h0 : n = 0
  · subst h0
    exact (Check_none A c w).mono fun e w' => hno e w' (check_first (by unfold firstOk; rw [hl]; rfl))
  · rcases hr : readB (l.getD 0 ⟨#[]⟩) with _ | _
    · exact (Check_unread A n c l w (by omega) hA hs hn ht hr).mono fun e w' => hno e w' (check_first (by unfold firstOk; rw [hr, Bool.and_false, Bool.false_and]))
    · by_cases hc : l.length = totN (readG (l.getD 0 ⟨#[]⟩))
      · exact Check_loop A n c l w (by omega) hA hs hn ht hr hc
      · exact (Check_count A n c l w (by omega) hA hs hn ht hr hc).mono fun e w' => hno e w' (check_first (by unfold firstOk; rw [decide_eq_false hc, Bool.and_false]))

end Go.Proofs.YtaegkpfjopajpaaDoor
