/-
  The statement SuperHarm: with a sector more or less, with a harmed superblock or header, what is at first is no device; with other sectors changed it is one still: for every geometry, every place and every text the call answers true and leaves its arguments as they were. No conditions; the listed table is tied to the program's text.
-/
import Derived.Test.YtaegkpfjopajpaaDoorSuperWakes
import Derived.Test.YtaegkpfjopajpaaDoorSuperSet
import Derived.Test.YtaegkpfjopajpaaDoorSuperFormat
import Derived.Test.YtaegkpfjopajpaaDoorGeoRefWhat
import Derived.Test.YtaegkpfjopajpaaDoorGeoOpen
import Derived.Test.YtaegkpfjopajpaaDoorLaid
import Derived.Deep.DeepCutAuto
import Derived.Deep.AppendLies
import Derived.ShutString
import Derived.ChangeOld
import Derived.Below
namespace Go.Proofs.YtaegkpfjopajpaaDoor.superHarm
open Go.ChangeShapes Go.WideShapes Go.ChangeAt Go.RowKit
open Go.ChangeMaps (open_string shut_string)
set_option linter.unusedVariables false
set_option linter.unusedSimpArgs false

/-- What another sector comes to. -/
theorem harm_ways {g : G} (h : mayG g = true) {q : Nat} (hq : q < totN g) {s : ByteArray} (hs : s.size ≤ 256) :
    (s = fmtAt g q ∧ checkG (setL g q s) = g ∧ checkE (setL g q s) = 0) ∨
    (¬ s = fmtAt g q ∧ (whatV g (q : Int)).k = 5 ∧ tailE s = 0 ∧ checkG (setL g q s) = g ∧ checkE (setL g q s) = 0) ∨
    (¬ s = fmtAt g q ∧ (whatV g (q : Int)).k = 5 ∧ tailE s = 50 ∧ checkE (setL g q s) = 50) ∨
    (¬ s = fmtAt g q ∧ (whatV g (q : Int)).k = 1 ∧ readE s = 0) ∨
    (¬ s = fmtAt g q ∧ (whatV g (q : Int)).k = 1 ∧ readE s = 50 ∧ checkE (setL g q s) = 50) ∨
    (¬ s = fmtAt g q ∧ ¬ (whatV g (q : Int)).k = 1 ∧ ¬ (whatV g (q : Int)).k = 5 ∧ checkG (setL g q s) = g ∧ checkE (setL g q s) = 0) := by
  by_cases h0 : s = fmtAt g q
  · have := set_was h hq
    rw [← h0] at this
    exact .inl ⟨h0, this⟩
  · by_cases h5 : (whatV g (q : Int)).k = 5
    · rcases ht : tailB s with _ | _
      · exact .inr (.inr (.inl ⟨h0, h5, (tailV_no ht).2, set_head h hq h5 ht⟩))
      · exact .inr (.inl ⟨h0, h5, (tailV_yes ht).2, set_tail h hq h5 ht⟩)
    · by_cases h1 : (whatV g (q : Int)).k = 1
      · have e := first_kind h hq h1
        subst e
        rcases hr : readB s with _ | _
        · exact .inr (.inr (.inr (.inr (.inl ⟨h0, h1, (readG_no hr).2, set_super h hr⟩))))
        · exact .inr (.inr (.inr (.inl ⟨h0, h1, (readG_yes hr).2⟩)))
      · exact .inr (.inr (.inr (.inr (.inr ⟨h0, h1, h5, set_other h hq hs h1 h5⟩))))
/-- The place, as Go reckons it. -/
theorem at_mod (a : Int) {N : Nat} (hN : 0 < N) : ∃ (r : Int) (q : Nat), a.tmod (N : Int) = r ∧ -(N : Int) < r ∧ r < (N : Int) ∧ (r + (N : Int)).tmod (N : Int) = (q : Int) ∧ q < N := by
  have h0 : (0 : Int) < (N : Int) := by omega
  refine ⟨a.tmod N, ((a.tmod N + N).tmod N).toNat, rfl, Int.lt_tmod_of_pos a h0, Int.tmod_lt_of_pos a h0, ?_, ?_⟩
  · rw [Int.toNat_of_nonneg]
    exact Int.tmod_nonneg _ (by have := Int.lt_tmod_of_pos a h0; omega)
  · have := Int.tmod_lt_of_pos (a.tmod N + N) h0
    have h2 := Int.tmod_nonneg (N : Int) (a := a.tmod N + N) (by have := Int.lt_tmod_of_pos a h0; omega)
    omega
theorem lies_take {w : World} {B n m : Nat} {A : Option Addr} {l : List ByteArray} (h : Lies w B A n (strV l)) (hm : m ≤ n) : Lies w B A m (strV (l.take m)) := by
  have hl : l.length = n := by simpa [strV] using h.1
  refine ⟨by simp [strV]; omega, fun hp => ?_⟩
  obtain ⟨ad, e1, e2, e3⟩ := h.2 (by omega)
  refine ⟨ad, e1, e2, fun j u hu => ?_⟩
  have hj : j < m := by
    have := (List.getElem?_eq_some_iff.1 hu).1
    simp [strV] at this
    omega
  refine e3 j u ?_
  rw [← hu, strV, strV, List.getElem?_map, List.getElem?_map, List.getElem?_take, if_pos hj]
theorem own_cap {w : World} {base g n c : Nat} {e : TypeId} {xs : List Value} (h : w.ownsRow base e 1 (.slice (some ⟨g, 0, none⟩) n c) n xs) : n ≤ c ∧ c ≤ maxLen := by
  rcases h.2 with ⟨h', _⟩ | ⟨g', cap', cur, h', _, _, h1, h2, _⟩
  · simp at h'
  · simp only [Value.slice.injEq] at h'
    obtain ⟨_, _, rfl⟩ := h'
    exact ⟨h1, h2⟩
theorem strV_one (l : List ByteArray) : ∀ u ∈ strV l, u.oneCell' = true := fun u hu => by
  obtain ⟨s, _, rfl⟩ := List.mem_map.1 hu
  rfl

set_option maxRecDepth 100000 in
set_option maxHeartbeats 4000000 in
theorem walk (g : G) (a1 : Int) (a2 : ByteArray) (w : World) (w1 : (Lit.int .i64 a1).wf = true) (w2 : a2.size ≤ maxLen) (ht : TabOk w) :
    Calls Tryd.prog 6 #[.agg #[.int .i64 g.N, .int .i64 g.S, .int .i64 g.B, .int .i64 g.P, .int .i64 g.J, .int .i64 g.L, .int .i64 g.E, .int .i64 g.T], .int .i64 a1, .string a2] w fun e w' => e = .returned (.bool true) ∧ Below w.heap.size w w' := by
  have bd := bd_i64 w1
  obtain ⟨b0, b1⟩ := bd
  have M2 := Lib.hid w2
  unfold maxLen at w2
  clear w1
  have HR := Lib.hid (RR.start g w)
  have HT := Lib.hid ht
  have ht0 := ht.below HR.out.1
  clear ht
  rcases hm : mayG g with _ | _
  · go_enter Tryd.func6, Tryd.ntmps6
    go_wp2_with fail
    refine (Format_no g _ hm ht0).mono ?_
    rintro e v1 ⟨rfl, hb1⟩
    have ht1 := ht0.below hb1
    have HB1 := Lib.hid (HR.out.call hb1).1
    clear HR ht0 hb1
    go_wp2_with fail
    refine (swakes_any _ ht1).mono ?_
    rintro e v2 ⟨rfl, hb2⟩
    have HB := below_then HB1.out hb2
    go_wp2_with fail
    go_ret
    exact ⟨rfl, HB⟩
  · by_cases hs : a2.size ≤ 256
    · have HM := Lib.hid hm
      have HTot := Lib.hid (total_bd g)
      have hp := tot_pos hm
      have HF := Lib.hid (fmt_less hm)
      have HF2 := Lib.hid (fmt_more hm ⟨#[]⟩)
      have HZ1 := Lib.hid (less_size hm (totN g - 1))
      have HZ2 := Lib.hid (more_size hm)
      obtain ⟨r, q, hr, r0, r1, hq, hqN⟩ := at_mod a1 hp
      have HW := Lib.hid (harm_ways hm hqN hs)
      have HZ3 := Lib.hid (setL_size hm (i := q) hs)
      obtain ⟨i0, hi, hz0, hz1, hz2⟩ := info_parts infoString
      have HI := Lib.hid (And.intro hi (And.intro hz0 (And.intro hz1 hz2)))
      have HY := Lib.hid (Format_yes g _ hm ht0)
      have HL := Lib.hid (fmtL_length g)
      have HQ : Hid ((fmtL g)[q]? = some (fmtAt g q)) := by
        show _ = _
        rw [List.getElem?_eq_getElem (by rw [fmtL_length]; exact hqN)]
        simp [fmtL]
      have HS : Hid ((fmtL g).set q a2 = setL g q a2) := rfl
      have HB := Lib.hid (total_bd g).2
      have HT1 := Lib.hid (total_bd g).1
      clear hm HTot HM
      have HWT := Lib.hid (what_r g (q : Int))
      generalize fmtAt g q = was at *
      generalize setL g q a2 = l2 at *
      generalize fmtL g = l at *
      generalize totN g = N at *
      have qB := Lib.hid hqN
      go_enter Tryd.func6, Tryd.ntmps6
      go_wp2_with fail
      refine HY.out.mono ?_
      rintro e v1 ⟨A, c, rfl, hb1, ho1⟩
      obtain ⟨rb, cap, hv, hrb, hrb2⟩ := World.ownsRow.form ho1 hp
      injection hv with e1 _ e3
      subst e1 e3
      have hrb' : w.heap.size < rb := by
        have h := hrb
        simp at h
        omega
      clear hrb HY
      have ht1 := ht0.below hb1
      have HR1 := Lib.hid (HR.out.call hb1)
      clear HR ht0 hb1
      have hG := HR1.out.2.1
      unfold GAt at hG
      obtain ⟨hG0, hG1, hG2, hG3, hG4, hG5, hG6, hG7⟩ := hG
      have HO1 := Lib.hid ho1
      clear ho1
      go_wp2_with fail
      refine (total_r g _).mono ?_
      rintro e v2 ⟨rfl, hb2⟩
      rw [HT1.out]
      have ht2 := ht1.below hb2
      have HR2 := Lib.hid (HR1.out.call hb2)
      have HO2 := Lib.hid (own_below HO1.out hb2)
      have hp2 := Nat.lt_of_lt_of_le hrb2 hb2.size
      clear hG0 hG1 hG2 hG3 hG4 hG5 hG6 hG7 HR1 ht1 HO1 hb2 hrb2
      have own0 := World.ownsRow_lit (base := v2.heap.size) (e := 9) (size := 1) v2 #[] 0 (Nat.le_refl _) (Nat.zero_le _) rfl
      have hA2 := (Lies.of_own HO2.out).alloc (.cells #[] 9)
      have hBs := HB.out
      go_wp2_with (at_builtin; refine wpList_append_lies rfl _ _ 34 rfl v2.heap.size 9 i0 (.string ⟨#[]⟩) 16 Tryd.underlying34 hi hz0 hz1 hz2 rfl _ 0 _ rfl own0 _ _ _ _ (strV l) rfl hA2 (strV_one _) ?c1 ?c2 ?c3 ?_)
      case c1 => unfold maxLen; omega
      case c2 => omega
      case c3 => simp
      intro z3 v3 own3 hg3
      have hb3 : Below v2.heap.size v2 v3 := ((Below.refl _ _).alloc (Nat.le_refl _) (.cells #[] 9)).grown hg3 (by simp) (fun i hi => (own0.lt i hi).1)
      have own3a := own3.alloc (.cells #[.string ⟨#[]⟩] 9)
      have hA3 := lies_new v3 #[.string ⟨#[]⟩] 9 (0, 0)
      clear own0 hA2 hg3 own3
      go_wp2_with (at_builtin; refine wpList_append_lies rfl _ _ 34 rfl v2.heap.size 9 i0 (.string ⟨#[]⟩) 16 Tryd.underlying34 hi hz0 hz1 hz2 rfl _ _ _ rfl own3a _ _ _ _ _ rfl hA3 (strV_one [⟨#[]⟩]) ?c1 ?c2 ?c3 ?_)
      case c1 => unfold maxLen; omega
      case c2 => omega
      case c3 => have := hb3.size; simp; omega
      intro z4 v4 own4 hg4
      have hb4 : Below v2.heap.size v2 v4 := (hb3.alloc hb3.size (.cells #[.string ⟨#[]⟩] 9)).grown hg4 (by have := hb3.size; simp; omega) (fun i hi => (own3a.lt i hi).1)
      obtain ⟨g4, cap4, rfl, hg41, hg42⟩ := World.ownsRow.form own4 (by omega)
      have hA4 : Lies v4 v4.heap.size (some ⟨g4, 0, none⟩) (N + 1) (strV (l ++ [⟨#[]⟩])) := by
        have h := Lies.of_own own4
        have e : strV (l ++ [⟨#[]⟩]) = strV l ++ [.string ⟨#[]⟩] := by simp [strV]
        rw [e]
        exact h
      have ht4 := ht2.below hb4
      have HR4 := Lib.hid (HR2.out.call hb4)
      have HO4 := Lib.hid (own_below HO2.out hb4)
      have hp4 := Nat.lt_of_lt_of_le hp2 hb4.size
      clear own3a hA3 hb3 hg4 hb4 own4 ht2 HR2 HO2 hp2 hg41 hg42 hi hz0 hz1 hz2
      go_wp2_with fail
      refine (Check_any (some ⟨g4, 0, none⟩) (N + 1) cap4 (l ++ [⟨#[]⟩]) _ hA4 HZ2.out (by unfold maxLen; omega) ht4).mono ?_
      rintro e v5 ⟨rfl, hb5⟩
      rw [HF2.out]
      generalize checkG (l ++ [⟨#[]⟩]) = x1
      have ht5 := (ht4.below hb5).alloc (.cells #[.int .i64 x1.N, .int .i64 x1.S, .int .i64 x1.B, .int .i64 x1.P, .int .i64 x1.J, .int .i64 x1.L, .int .i64 x1.E, .int .i64 x1.T] 23)
      have HR5 := Lib.hid ((HR4.out.call hb5).alloc (.cells #[.int .i64 x1.N, .int .i64 x1.S, .int .i64 x1.B, .int .i64 x1.P, .int .i64 x1.J, .int .i64 x1.L, .int .i64 x1.E, .int .i64 x1.T] 23))
      have HO5 := Lib.hid ((own_below HO4.out hb5).alloc (.cells #[.int .i64 x1.N, .int .i64 x1.S, .int .i64 x1.B, .int .i64 x1.P, .int .i64 x1.J, .int .i64 x1.L, .int .i64 x1.E, .int .i64 x1.T] 23))
      have hp5 : rb < (v5.alloc (.cells #[.int .i64 x1.N, .int .i64 x1.S, .int .i64 x1.B, .int .i64 x1.P, .int .i64 x1.J, .int .i64 x1.L, .int .i64 x1.E, .int .i64 x1.T] 23)).heap.size := by have := hb5.size; simp; omega
      obtain ⟨hcN, hcm⟩ := own_cap HO5.out
      obtain ⟨M, hM, HMN⟩ : ∃ M : Nat, (N : Int) - 1 = (M : Int) ∧ Hid (M = N - 1) := ⟨N - 1, by omega, rfl⟩
      have hMc : M ≤ c := by omega
      clear ht4 HR4 HO4 hp4 hb5 hA4
      go_wp2_with fail
      have hA5 := lies_take (Lies.of_own HO5.out) (show M ≤ N by omega)
      have HF' : checkE (l.take M) = 50 := by rw [HMN.out]; exact HF.out
      have HZ' : ∀ s ∈ l.take M, s.size ≤ maxLen := by rw [HMN.out]; exact HZ1.out
      refine (Check_any (some ⟨rb, 0, none⟩) M c (l.take M) _ hA5 HZ' (by omega) ht5).mono ?_
      rintro e v6 ⟨rfl, hb6⟩
      rw [HF']
      clear HF' HZ' HF HZ1 HF2 HZ2 hA5
      generalize checkG (l.take M) = x2
      have ht6 := (ht5.below hb6).alloc (.cells #[.int .i64 x2.N, .int .i64 x2.S, .int .i64 x2.B, .int .i64 x2.P, .int .i64 x2.J, .int .i64 x2.L, .int .i64 x2.E, .int .i64 x2.T] 23)
      have HR6 := Lib.hid ((HR5.out.call hb6).alloc (.cells #[.int .i64 x2.N, .int .i64 x2.S, .int .i64 x2.B, .int .i64 x2.P, .int .i64 x2.J, .int .i64 x2.L, .int .i64 x2.E, .int .i64 x2.T] 23))
      have HO6 := Lib.hid ((own_below HO5.out hb6).alloc (.cells #[.int .i64 x2.N, .int .i64 x2.S, .int .i64 x2.B, .int .i64 x2.P, .int .i64 x2.J, .int .i64 x2.L, .int .i64 x2.E, .int .i64 x2.T] 23))
      have hG := HR6.out.2.1
      unfold GAt at hG
      obtain ⟨hG0, hG1, hG2, hG3, hG4, hG5, hG6, hG7⟩ := hG
      have hN0 : ¬ (N : Int) = 0 := by omega
      have hq0 : -9223372036854775808 ≤ (q : Int) := by omega
      have hq1 : (q : Int) ≤ 9223372036854775807 := by omega
      clear ht5 HR5 HO5 hp5 hb6 hM HMN hMc
      go_wp2_with fail
      refine (HWT.out _ hq0 hq1).mono ?_
      rintro e v7 ⟨rfl, hb7⟩
      clear HWT
      have HR7 := HR6.out.call hb7
      have HO7 := own_below HO6.out hb7
      clear hG0 hG1 hG2 hG3 hG4 hG5 hG6 hG7 HR6 HO6 hb7 ht6 hr hq hq0 hq1 r0 r1
      generalize (whatV g (q : Int)).k = k at *
      generalize (whatV g (q : Int)).a = ka at *
      generalize (whatV g (q : Int)).b = kb at *
      have hcell : v7.cell? ⟨rb, q, none⟩ = some (.string was) := by
        have h := HO7.cellAt q (by omega)
        rw [strV, List.getElem?_map, HQ.out] at h
        exact h
      have hfr := HO7.frozenAt q
      have hst := HO7.stored q (.string a2)
      rw [strV, ← List.map_set, HS.out] at hst
      have HR8 : Hid (RR g w (v7.setCell ⟨rb, q, none⟩ (.string a2))) := ⟨HR7.1.grown hst.2 HR7.1.size (fun i hi => by have h := (HO7.lt i hi).1; simp at h; omega), by
        have h2 := HR7.2.1
        unfold GAt at h2 ⊢
        have key : ∀ o, (v7.setCell ⟨rb, q, none⟩ (.string a2)).cell? ⟨w.heap.size, o, none⟩ = v7.cell? ⟨w.heap.size, o, none⟩ := fun o => World.cell?_of_block (a := ⟨w.heap.size, o, none⟩) (Below.heap_setCell _ _ _ _ (by show w.heap.size ≠ rb; omega))
        simp only [key]
        exact h2, Nat.lt_of_lt_of_le HR7.2.2 hst.2.size⟩
      have hL8 := Lies.of_own hst.1
      have ht8 := HT.out.below HR8.out.1
      clear hst HR7 HO7
      go_wp2_with fail
      refine (Check_any (some ⟨rb, 0, none⟩) N c l2 _ hL8 HZ3.out (by unfold maxLen; omega) ht8).mono ?_
      rintro e v9 ⟨rfl, hb9⟩
      generalize checkG l2 = cg at *
      generalize checkE l2 = ce at *
      have p9 := Blk.new v9 #[.int .i64 cg.N, .int .i64 cg.S, .int .i64 cg.B, .int .i64 cg.P, .int .i64 cg.J, .int .i64 cg.L, .int .i64 cg.E, .int .i64 cg.T] 23
      have ht9 := (ht8.below hb9).alloc (.cells #[.int .i64 cg.N, .int .i64 cg.S, .int .i64 cg.B, .int .i64 cg.P, .int .i64 cg.J, .int .i64 cg.L, .int .i64 cg.E, .int .i64 cg.T] 23)
      have HR9 := Lib.hid ((HR8.out.call hb9).alloc (.cells #[.int .i64 cg.N, .int .i64 cg.S, .int .i64 cg.B, .int .i64 cg.P, .int .i64 cg.J, .int .i64 cg.L, .int .i64 cg.E, .int .i64 cg.T] 23))
      clear hcell hfr hL8 ht8 HR8 hb9 HZ3 HS HQ HL hcN hcm
      go_wp2_with fail
      refine (refTail_any a2 _ M2.out).mono ?_
      rintro e v10 ⟨rfl, hb10⟩
      generalize tailE a2 = te at *
      generalize tailV a2 = tv at *
      have p10 := p9.below hb10 p9.lt
      have ht10 := ht9.below hb10
      have HR10 := Lib.hid (HR9.out.call hb10)
      have pc0 := p10.cell 0 _ rfl
      have pc1 := p10.cell 1 _ rfl
      have pc2 := p10.cell 2 _ rfl
      have pc3 := p10.cell 3 _ rfl
      have pc4 := p10.cell 4 _ rfl
      have pc5 := p10.cell 5 _ rfl
      have pc6 := p10.cell 6 _ rfl
      have pc7 := p10.cell 7 _ rfl
      have hG := HR10.out.2.1
      unfold GAt at hG
      obtain ⟨hG0, hG1, hG2, hG3, hG4, hG5, hG6, hG7⟩ := hG
      have HB10 := Lib.hid HR10.out.1
      clear p9 p10 ht9 HR9 HR10 hb10
      rcases HW.out with ⟨h0, h1, h2⟩ | ⟨h0, h5, ht, h1, h2⟩ | ⟨h0, h5, ht, h2⟩ | ⟨h0, h5, hre⟩ | ⟨h0, h5, hre, h2⟩ | ⟨h0, h5, h6, h1, h2⟩
      · subst h0 h1 h2
        clear HW
        have hss := str_same a2
        go_wp2_with fail
        refine (swakes_any _ ht10).mono ?_
        rintro e v11 ⟨rfl, hb11⟩
        have HB := below_then HB10.out hb11
        clear hb11 ht10
        go_wp2_with fail
        go_ret
        exact ⟨rfl, HB⟩
      · subst h5 ht h1 h2
        clear HW
        have hss := str_diff h0
        go_wp2_with fail
        refine (swakes_any _ ht10).mono ?_
        rintro e v11 ⟨rfl, hb11⟩
        have HB := below_then HB10.out hb11
        clear hb11 ht10
        go_wp2_with fail
        go_ret
        exact ⟨rfl, HB⟩
      · subst h5 ht h2
        clear HW
        have hss := str_diff h0
        go_wp2_with fail
        refine (swakes_any _ ht10).mono ?_
        rintro e v11 ⟨rfl, hb11⟩
        have HB := below_then HB10.out hb11
        clear hb11 ht10
        go_wp2_with fail
        go_ret
        exact ⟨rfl, HB⟩
      · subst h5
        clear HW
        have hss := str_diff h0
        go_wp2_with fail
        refine (refRead_any a2 _ M2.out).mono ?_
        rintro e v11 ⟨rfl, hb11⟩
        rw [hre]
        clear hre
        generalize readG a2 = x3
        have ht11 := (ht10.below hb11).alloc (.cells #[.int .i64 x3.N, .int .i64 x3.S, .int .i64 x3.B, .int .i64 x3.P, .int .i64 x3.J, .int .i64 x3.L, .int .i64 x3.E, .int .i64 x3.T] 23)
        have HB11 := Lib.hid ((below_then HB10.out hb11).alloc (below_then HB10.out hb11).size (.cells #[.int .i64 x3.N, .int .i64 x3.S, .int .i64 x3.B, .int .i64 x3.P, .int .i64 x3.J, .int .i64 x3.L, .int .i64 x3.E, .int .i64 x3.T] 23))
        clear ht10 HB10 hb11
        go_wp2_with fail
        refine (swakes_any _ ht11).mono ?_
        rintro e v12 ⟨rfl, hb12⟩
        have HB := below_then HB11.out hb12
        clear hb12 ht11
        go_wp2_with fail
        go_ret
        exact ⟨rfl, HB⟩
      · subst h5 h2
        clear HW
        have hss := str_diff h0
        go_wp2_with fail
        refine (refRead_any a2 _ M2.out).mono ?_
        rintro e v11 ⟨rfl, hb11⟩
        rw [hre]
        clear hre
        generalize readG a2 = x3
        have ht11 := (ht10.below hb11).alloc (.cells #[.int .i64 x3.N, .int .i64 x3.S, .int .i64 x3.B, .int .i64 x3.P, .int .i64 x3.J, .int .i64 x3.L, .int .i64 x3.E, .int .i64 x3.T] 23)
        have HB11 := Lib.hid ((below_then HB10.out hb11).alloc (below_then HB10.out hb11).size (.cells #[.int .i64 x3.N, .int .i64 x3.S, .int .i64 x3.B, .int .i64 x3.P, .int .i64 x3.J, .int .i64 x3.L, .int .i64 x3.E, .int .i64 x3.T] 23))
        clear ht10 HB10 hb11
        go_wp2_with fail
        refine (swakes_any _ ht11).mono ?_
        rintro e v12 ⟨rfl, hb12⟩
        have HB := below_then HB11.out hb12
        clear hb12 ht11
        go_wp2_with fail
        go_ret
        exact ⟨rfl, HB⟩
      · subst h1 h2
        clear HW
        have hss := str_diff h0
        have hk1 := beq_no h5
        have hk5 := beq_no h6
        go_wp2_with fail
        refine (swakes_any _ ht10).mono ?_
        rintro e v11 ⟨rfl, hb11⟩
        have HB := below_then HB10.out hb11
        clear hb11 ht10
        go_wp2_with fail
        go_ret
        exact ⟨rfl, HB⟩
    · go_enter Tryd.func6, Tryd.ntmps6
      go_wp2_with fail
      refine (Format_yes g _ hm ht0).mono ?_
      rintro e v1 ⟨A, c, rfl, hb1, _⟩
      have ht1 := ht0.below hb1
      have HB1 := Lib.hid (HR.out.call hb1).1
      clear HR ht0 hb1
      go_wp2_with fail
      refine (swakes_any _ ht1).mono ?_
      rintro e v2 ⟨rfl, hb2⟩
      have HB := below_then HB1.out hb2
      go_wp2_with fail
      go_ret
      exact ⟨rfl, HB⟩

/-! ### THE ROW's STEP -/
set_option maxRecDepth 100000 in
theorem lifted (os : Os) (started : os.Started) (H : Type) (enc : TypeId × Value → H) :
    ReturnsInHanded {} Tryd.checked os 6 .any (fun w args => (Rows.superHarmSpec.pre enc Tryd.prog Tryd.f6 [] false w args ∧ laidMetH Tryd.prog laidL w) ∧ sizedMet enc Tryd.prog Tryd.f6 (OpenSpec.ofChange Rows.superHarmSpec) false w args) (Rows.superHarmSpec.post enc Tryd.prog Tryd.f6 false true false false) := by
  refine returnsInHanded_of_change_and (C := Tryd.checked) (X := fun w _ => laidMetH Tryd.prog laidL w) (fun _ _ _ hh h => h.of_heap hh) own started (by kernel_rfl) Tryd.func6
    (ChangeSpec.witness_shaped (enc := enc) (C := Tryd.checked) (os := os) (X := fun w _ => laidMetH Tryd.prog laidL w) false (World.doorLaid Tryd.prog 14 os) #[.agg #[.int .i64 0, .int .i64 0, .int .i64 0, .int .i64 0, .int .i64 0, .int .i64 0, .int .i64 0, .int .i64 0], .int .i64 0, .string ByteArray.empty] 8 rfl (World.shaped_of_RefB (by kernel_rfl) (by kernel_rfl)) (by kernel_rfl) (by kernel_rfl) (by kernel_rfl) (door_met os _)) ?_
  intro W base args ds gs before hval0 hW _ _ hL _
  have hval : ∀ (j : Nat) t v, Tryd.f6.params[j]? = some t → args[j]? = some v → Value.okWide Tryd.prog W .any base t v := hval0
  have hW' := hW
  obtain ⟨p, q, hA0, hV, rfl, hfz, hnd⟩ := hW
  have hA : DataW.TrodAll enc Tryd.prog W 0 (fun _ => true) true Tryd.f6.params.toList args.toList ds p := hA0
  rw [Tryd.params6] at hA hval
  obtain ⟨v0, vs0, d0, ds0, p0, q0, hargs, rfl, rfl, h0, r0⟩ := trodAll_cons hA
  obtain ⟨v1, vs1, d1, ds1, p1, q1, rfl, rfl, rfl, h1, r1⟩ := trodAll_cons r0
  obtain ⟨v2, vs2, d2, ds2, p2, q2, rfl, rfl, rfl, h2, r2⟩ := trodAll_cons r1
  obtain ⟨rfl, rfl, rfl⟩ := trodAll_nil r2
  obtain rfl : args = #[v0, v1, v2] := by cases args; simp_all
  obtain ⟨rfl, rfl⟩ := trodVars_none hV
  have k0 := h0
  have lt0 : ∀ x ∈ p0, x.block < W.heap.size := by obtain ⟨m, hm⟩ := k0; exact DataW.trod_lt m _ _ _ hm
  obtain ⟨g0, rfl⟩ := open_geo (hval 0 23 v0 rfl rfl) h0
  obtain ⟨a1, rfl, rfl, rfl, w1⟩ := open_int Tryd.underlying3 (hval 1 3 v1 rfl rfl) h1
  obtain ⟨a2, rfl, rfl, rfl, w2⟩ := open_string Tryd.underlying9 (hval 2 9 v2 rfl rfl) h2
  clear hA0 hval0
  refine (walk g0 a1 a2 W w1 w2 (met_of_laid hL)).mono fun e W' ⟨he, bel⟩ => ?_
  subst he
  exact ⟨_, rfl, _, _, _, [], _, [], hW', trodAll_mk1 (shut_bool Tryd.underlying4 _), (trodAll_cons_mk (Below.trod laidOut (by kernel_rfl) (of_decide_eq_true (by kernel_rfl)) k0 bel lt0) (trodAll_cons_mk (shut_int Tryd.underlying3 w1) (trodAll_cons_mk (shut_string Tryd.underlying9 w2) trodAll_mk0))), rfl, bel.frame _, fun h => by cases h⟩

theorem over : Rows.superHarmRow.holds Tryd.pinned (OpenSpec.ofChange Rows.superHarmSpec) :=
  OpenClaim.holds_of_wide 6 Tryd.f6 rfl rfl rfl rfl rfl rfl rfl ⟨rfl, rfl, rfl, rfl, rfl⟩ rfl rfl rfl rfl rfl (by kernel_rfl) Tryd.func6 (by kernel_rfl)
    (of_decide_eq_true (by kernel_rfl)) (by unfold Func.isWrapper; first | (rw [if_pos (by decide +kernel)]; kernel_rfl) | (rw [if_neg (by decide +kernel)]; exact ⟨rfl, rfl⟩))
    (fun os started H enc _ => lifted os started H enc)

/-- The statement. -/
theorem proved : Rows.SuperHarmSaid := over
#print axioms proved

/-- THE TIED CARD. -/
theorem card : Rows.SuperHarmCardSaid :=
  Claim7.holds_tied_plain_at .later [] [.data] true (true, "3cb45ea245c34bde2fcc8e65605bbc01081f3f8c8232fc1b05926c495b85c050") false
    proved (fun _ h => by cases h) (by kernel_rfl) (fun _ h => by cases h) superHarm_row_tie rfl ⟨rfl, rfl⟩ (by kernel_rfl) rfl
    (fun f fn hf hfn => by
      obtain rfl : f = 6 := Option.some.inj ((show Tryd.prog.funcNamed "breakwater/breakwaterlaw05.SuperHarm" = some 6 by kernel_rfl).symm.trans hf) |>.symm
      obtain rfl : fn = Tryd.f6 := (Option.some.inj (Tryd.func6.symm.trans hfn)).symm
      exact ⟨by kernel_rfl, fun j t ht => by
        rw [Tryd.params6] at ht
        have hm : t ∈ [23, 3, 9] := by simpa using Array.mem_of_getElem? ht
        have hall : ([23, 3, 9].all fun u => !Tryd.prog.wantsStandIn u) = true := by kernel_rfl
        exact (show Tryd.prog.wantsStandIn t = false by simpa using List.all_eq_true.1 hall t hm)⟩)
    (by kernel_rfl)
#print axioms card
end Go.Proofs.YtaegkpfjopajpaaDoor.superHarm
