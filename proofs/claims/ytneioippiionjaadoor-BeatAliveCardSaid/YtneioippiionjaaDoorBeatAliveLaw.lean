/-
  The statement BeatAlive: a watch of a node that beats is dead just when Wait is over since the look that saw the last beat: for every Wait, every row of looks and every key the call answers true and leaves its arguments as they were. No conditions; the listed table is tied to the program's text.
-/
import Derived.Test.YtneioippiionjaaDoorBeatWakes
import Derived.Test.YtneioippiionjaaDoorBeatOpen
import Derived.Test.YtneioippiionjaaDoorLaid
import Derived.ShutString
import Derived.ChangeOld
import Derived.Below
namespace Go.Proofs.YtneioippiionjaaDoor.beatAlive
open Go.ChangeShapes Go.WideShapes Go.ChangeAt Go.RowKit
open Go.ChangeMaps (open_string shut_string)
set_option linter.unusedVariables false
set_option linter.unusedSimpArgs false

/-- What holds behind k looks: the clock, the count, since when; the watch. -/
def AliveAt (k : Nat) (key N c S wk wc ws : Int) (wl : Bool) : Prop :=
  7 ≤ N ∧ N ≤ 7 + 1000 * k ∧ 1 ≤ c ∧ c ≤ 1 + k ∧ -1 ≤ S ∧ S ≤ N ∧ ((k = 0 ∧ wl = false ∧ S = -1) ∨ (0 < k ∧ wl = true ∧ wk = key ∧ wc = c ∧ ws = S ∧ 0 ≤ S))
theorem since_new {wk wc ws key c N : Int} {wl : Bool} (hm : beatMay key c = true) (h : ¬ (wl = true ∧ wk = key ∧ wc = c)) : sinceV wk wc ws wl (beatS key c) N = N := by
  obtain ⟨e1, e2⟩ := seen_beat hm
  unfold sinceV
  rw [if_neg]
  unfold lookB
  rw [e1, e2, Bool.and_eq_true, Bool.and_eq_true, beq_iff_eq, beq_iff_eq]
  exact fun hh => h ⟨hh.1.1, hh.1.2, hh.2⟩
theorem since_old {ws key c N : Int} (hm : beatMay key c = true) : sinceV key c ws true (beatS key c) N = ws := by
  obtain ⟨e1, e2⟩ := seen_beat hm
  unfold sinceV
  rw [if_pos]
  unfold lookB
  rw [e1, e2]
  simp
theorem alive_beat {k : Nat} {key N c S wk wc ws L : Int} {wl : Bool} (h : AliveAt k key N c S wk wc ws wl) (hm : beatMay key (c + 1) = true) (h0 : 0 ≤ L) (h1 : L ≤ 1000) :
    AliveAt (k + 1) key (N + L) (c + 1) (N + L) key (c + 1) (N + L) true ∧ sinceV wk wc ws wl (beatS key (c + 1)) (N + L) = N + L := by
  obtain ⟨g1, g2, g3, g4, g5, g6, g7⟩ := h
  refine ⟨⟨by omega, by omega, by omega, by omega, by omega, by omega, .inr ⟨by omega, rfl, rfl, rfl, rfl, by omega⟩⟩, since_new hm ?_⟩
  rintro ⟨rfl, rfl, hc⟩
  rcases g7 with ⟨_, h, _⟩ | ⟨_, _, _, h, _⟩
  · cases h
  · omega
theorem alive_first {k : Nat} {key N c S wk wc ws L : Int} {wl : Bool} (h : AliveAt k key N c S wk wc ws wl) (hm : beatMay key c = true) (h0 : 0 ≤ L) (h1 : L ≤ 1000) (hS : S < 0) :
    AliveAt (k + 1) key (N + L) c (N + L) key c (N + L) true ∧ sinceV wk wc ws wl (beatS key c) (N + L) = N + L := by
  obtain ⟨g1, g2, g3, g4, g5, g6, g7⟩ := h
  refine ⟨⟨by omega, by omega, by omega, by omega, by omega, by omega, .inr ⟨by omega, rfl, rfl, rfl, rfl, by omega⟩⟩, since_new hm ?_⟩
  rintro ⟨rfl, rfl, hc⟩
  rcases g7 with ⟨_, h, _⟩ | ⟨_, _, _, _, _, h⟩
  · cases h
  · omega
theorem alive_same {k : Nat} {key N c S wk wc ws L : Int} {wl : Bool} (h : AliveAt k key N c S wk wc ws wl) (hm : beatMay key c = true) (h0 : 0 ≤ L) (h1 : L ≤ 1000) (hS : 0 ≤ S) :
    AliveAt (k + 1) key (N + L) c S key c S true ∧ sinceV wk wc ws wl (beatS key c) (N + L) = S := by
  obtain ⟨g1, g2, g3, g4, g5, g6, g7⟩ := h
  rcases g7 with ⟨_, _, h⟩ | ⟨_, rfl, rfl, rfl, rfl, _⟩
  · omega
  · exact ⟨⟨by omega, by omega, by omega, by omega, by omega, by omega, .inr ⟨by omega, rfl, rfl, rfl, rfl, by omega⟩⟩, since_old hm⟩
/-- Dead just then. -/
theorem dead_now {wt k S N : Int} (hk : 1 ≤ k) (hw : 1 ≤ wt) (h : S ≤ N) : deadB wt k S true N = decide (wt ≤ N - S) := by
  have h1 : (k == 0) = false := by simp; omega
  unfold deadB reachB
  rw [h1, decide_eq_true h, Int.max_eq_left (by omega)]
  simp
theorem dead_at {wt k S : Int} (hk : 1 ≤ k) (hw : 1 ≤ wt) : deadB wt k S true (S + wt) = true := by
  rw [dead_now hk hw (by omega)]
  exact decide_eq_true (by omega)
theorem dead_ahead {wt k S : Int} (hk : 1 ≤ k) (hw : 1 ≤ wt) : deadB wt k S true (S + wt - 1) = false := by
  rw [dead_now hk hw (by omega)]
  exact decide_eq_false (by omega)

set_option maxRecDepth 100000 in
set_option maxHeartbeats 8000000 in
theorem walk (a0 : Int) (a1 : Option Addr) (n cap : Nat) (L : Nat → Int) (B : Nat → Bool) (a2 : Int) (w : World) (w0 : (Lit.int .i64 a0).wf = true) (w1 : IsLooks w a1 n cap L B) (w2 : (Lit.int .i64 a2).wf = true) (ht : TabOk w) :
    Calls Tryd.prog 3 #[.int .i64 a0, .slice a1 n cap, .int .i64 a2] w fun e w' => e = .returned (.bool true) ∧ Below w.heap.size w w' := by
  clear w0 w2
  go_enter Tryd.func3, Tryd.ntmps3
  by_cases q1 : 100 < n
  · go_wp2_with fail
    refine (wakes_any _ ht).mono ?_
    rintro e wz ⟨rfl, hbz⟩
    have hbz' := below_then (Below.refl _ _) hbz
    go_wp2_with fail
    go_ret
    exact ⟨rfl, hbz'⟩
  · have p1 : n ≤ 100 := by omega
    clear q1
    by_cases q2 : a0 < 1
    · go_wp2_with fail
      refine (wakes_any _ ht).mono ?_
      rintro e wz ⟨rfl, hbz⟩
      have hbz' := below_then (Below.refl _ _) hbz
      go_wp2_with fail
      go_ret
      exact ⟨rfl, hbz'⟩
    · have p2 : 1 ≤ a0 := by omega
      clear q2
      by_cases q3 : 1000 < a0
      · go_wp2_with fail
        refine (wakes_any _ ht).mono ?_
        rintro e wz ⟨rfl, hbz⟩
        have hbz' := below_then (Below.refl _ _) hbz
        go_wp2_with fail
        go_ret
        exact ⟨rfl, hbz'⟩
      · have p3 : a0 ≤ 1000 := by omega
        clear q3
        by_cases q4 : a2 < 1
        · go_wp2_with fail
          refine (wakes_any _ ht).mono ?_
          rintro e wz ⟨rfl, hbz⟩
          have hbz' := below_then (Below.refl _ _) hbz
          go_wp2_with fail
          go_ret
          exact ⟨rfl, hbz'⟩
        · have p4 : 1 ≤ a2 := by omega
          clear q4
          by_cases q5 : 1000 < a2
          · go_wp2_with fail
            refine (wakes_any _ ht).mono ?_
            rintro e wz ⟨rfl, hbz⟩
            have hbz' := below_then (Below.refl _ _) hbz
            go_wp2_with fail
            go_ret
            exact ⟨rfl, hbz'⟩
          · have p5 : a2 ≤ 1000 := by omega
            clear q5
            have b2 : Below w.heap.size w ((w.alloc (.cells #[.int .i64 0, .int .i64 0, .int .i64 0, .int .i64 0, .int .i64 0, .int .i64 0, .int .i64 1, .int .i64 a0] 25)).alloc (.cells #[.int .i64 0, .int .i64 0, .int .i64 0, .bool false] 27)) := ((Below.refl _ _).alloc (Nat.le_refl _) _).alloc (by simp) _
            have g2 : Blk ((w.alloc (.cells #[.int .i64 0, .int .i64 0, .int .i64 0, .int .i64 0, .int .i64 0, .int .i64 0, .int .i64 1, .int .i64 a0] 25)).alloc (.cells #[.int .i64 0, .int .i64 0, .int .i64 0, .bool false] 27)) w.heap.size #[.int .i64 0, .int .i64 0, .int .i64 0, .int .i64 0, .int .i64 0, .int .i64 0, .int .i64 1, .int .i64 a0] 25 := (Blk.new w _ _).alloc _
            have m2 : Blk ((w.alloc (.cells #[.int .i64 0, .int .i64 0, .int .i64 0, .int .i64 0, .int .i64 0, .int .i64 0, .int .i64 1, .int .i64 a0] 25)).alloc (.cells #[.int .i64 0, .int .i64 0, .int .i64 0, .bool false] 27)) (w.heap.size + 1) #[.int .i64 0, .int .i64 0, .int .i64 0, .bool false] 27 := by
              have h := Blk.new (w.alloc (.cells #[.int .i64 0, .int .i64 0, .int .i64 0, .int .i64 0, .int .i64 0, .int .i64 0, .int .i64 1, .int .i64 a0] 25)) #[.int .i64 0, .int .i64 0, .int .i64 0, .bool false] 27
              rw [World.size_alloc] at h
              exact h
            go_wp2_with fail
            generalize (w.alloc (.cells #[.int .i64 0, .int .i64 0, .int .i64 0, .int .i64 0, .int .i64 0, .int .i64 0, .int .i64 1, .int .i64 a0] 25)).alloc (.cells #[.int .i64 0, .int .i64 0, .int .i64 0, .bool false] 27) = W2 at *
            go_loopw [9, 10, 11, 12] (fun nw ct sn i wr => ∃ (k : Nat) (N c S wk wc ws : Int) (wl : Bool), k ≤ n ∧ i = .int .i64 k ∧ nw = .int .i64 N ∧ ct = .int .i64 c ∧ sn = .int .i64 S ∧ Blk wr w.heap.size #[.int .i64 0, .int .i64 0, .int .i64 0, .int .i64 0, .int .i64 0, .int .i64 0, .int .i64 1, .int .i64 a0] 25 ∧ Blk wr (w.heap.size + 1) #[.int .i64 wk, .int .i64 wc, .int .i64 ws, .bool wl] 27 ∧ Below w.heap.size w wr ∧ Hid (AliveAt k a2 N c S wk wc ws wl)) (fun _ _ _ i _ => n - (intOf i).toNat)
            case atStart => exact ⟨0, 7, 1, -1, 0, 0, 0, false, Nat.zero_le _, rfl, rfl, rfl, rfl, g2, m2, b2, ⟨by omega, by omega, by omega, by omega, by omega, by omega, .inl ⟨rfl, rfl, rfl⟩⟩⟩
            case round =>
              clear g2 m2 b2
              obtain ⟨k, N, c, S, wk, wc, ws, wl, hk, rfl, rfl, rfl, rfl, gb, mb, hb, HA⟩ := hrel
              have htr := ht.below hb
              have hn := HA.out
              obtain ⟨z1, z2, z3, z4, z5, z6, z7⟩ := hn
              obtain ⟨g0, g1, g2, g3, g4, g5, g6, g7⟩ := geo_cells gb
              obtain ⟨m0, m1, m2, m3⟩ := watch_cells mb
              by_cases hlt : k < n
              · obtain ⟨x, rfl, hcl⟩ : ∃ x : Addr, a1 = some x ∧ ∀ i, i < n → w.cell? (x.add (i * 2)) = some (.int .i64 (L i)) ∧ w.cell? (x.add (i * 2 + 1)) = some (.bool (B i)) := by
                  rcases w1 with ⟨_, h, _⟩ | ⟨x, h1, _, _, h4⟩
                  · omega
                  · exact ⟨x, h1, h4⟩
                have l0 : wr.cell? (x.add (k * 2)) = some (.int .i64 (L k)) := (hb.cell (World.block_lt_of_cell? w _ (hcl k hlt).1)).trans (hcl k hlt).1
                have l1 : wr.cell? (x.add (k * 2 + 1)) = some (.bool (B k)) := (hb.cell (World.block_lt_of_cell? w _ (hcl k hlt).2)).trans (hcl k hlt).2
                have l2 : wr.cell? ⟨(x.add (k * 2)).block, (x.add (k * 2)).off + 1, none⟩ = some (.bool (B k)) := by
                  rw [← l1, ← Go.Deep.add_add]
                  simp [Addr.add]
                clear hcl w1 z7 l1
                generalize L k = l at *
                generalize B k = bt at *
                by_cases y1 : l < 0
                · go_wp2_with fail
                  refine (wakes_any _ htr).mono ?_
                  rintro e wz ⟨rfl, hbz⟩
                  have hbz' := below_then hb hbz
                  go_wp2_with fail
                  go_ret
                  exact ⟨rfl, hbz'⟩
                · by_cases y2 : 1000 < l
                  · go_wp2_with fail
                    refine (wakes_any _ htr).mono ?_
                    rintro e wz ⟨rfl, hbz⟩
                    have hbz' := below_then hb hbz
                    go_wp2_with fail
                    go_ret
                    exact ⟨rfl, hbz'⟩
                  · replace y1 : 0 ≤ l := by omega
                    replace y2 : l ≤ 1000 := by omega
                    rcases bt with _ | _
                    · by_cases y3 : S < 0
                      · have hm : beatMay a2 (c) = true := decide_eq_true (by omega)
                        have hal := alive_first HA.out hm y1 y2 y3
                        have HN : Hid (AliveAt (k + 1) a2 (N + l) (c) (N + l) a2 (c) (N + l) true) := hal.1
                        have HS : Hid (sinceV wk wc ws wl (beatS a2 (c)) (N + l) = N + l) := hal.2
                        have HB := Lib.hid (beat_yes hm)
                        have HK := Lib.hid (seen_beat hm)
                        have hs := beatS_size hm
                        have D1 : Hid (deadB a0 a2 (N + l) true (N + l) = false) := by
                          show _ = _
                          rw [dead_now p4 p2 (by omega)]
                          exact decide_eq_false (by omega)
                        have D2 : Hid (deadB a0 a2 (N + l) true (N + l + a0) = true) := dead_at p4 p2
                        have D3 : Hid (deadB a0 a2 (N + l) true (N + l + a0 - 1) = false) := dead_ahead p4 p2
                        clear hal hm HA
                        go_wp2_with fail
                        refine (beatBytes_any a2 (c) _ htr).mono ?_
                        rintro e v1 ⟨rfl, hc1⟩
                        rw [HB.out.1, HB.out.2]
                        have gb1 := gb.below hc1 gb.lt
                        have mb1 := mb.below hc1 mb.lt
                        have hb1 := below_then hb hc1
                        have ht1 := ht.below hb1
                        clear g0 g1 g2 g3 g4 g5 g6 g7 m0 m1 m2 m3 gb mb hc1 l0 l2 htr HB
                        obtain ⟨m0, m1, m2, m3⟩ := watch_cells mb1
                        generalize beatS a2 (c) = T at *
                        go_wp2_with fail
                        refine (Look_any wk wc ws (N + l) wl T _ hs ht1).mono ?_
                        rintro e v2 ⟨rfl, hc2⟩
                        have HL : Hid (lookV wk wc ws wl T (N + l) = #[.int .i64 a2, .int .i64 (c), .int .i64 (N + l), .bool true]) := by
                          show _ = _
                          unfold lookV
                          rw [HK.out.1, HK.out.2, HS.out]
                        rw [HL.out]
                        have gb2 := gb1.below hc2 gb1.lt
                        have mb2 := mb1.below hc2 mb1.lt
                        have hb2 := below_then hb1 hc2
                        clear m0 m1 m2 m3 gb1 mb1 hc2 hb1 ht1 HL HK HS hs
                        obtain ⟨m0, m1, m2, m3⟩ := watch_cells mb2
                        have f0 := mb2.free 0
                        have f1 := mb2.free 1
                        have f2 := mb2.free 2
                        have f3 := mb2.free 3
                        have gb5 := (((gb2.other (c := w.heap.size + 1) (by omega) 0 (.int .i64 a2)).other (c := w.heap.size + 1) (by omega) 1 (.int .i64 (c))).other (c := w.heap.size + 1) (by omega) 2 (.int .i64 (N + l))).other (c := w.heap.size + 1) (by omega) 3 (.bool true)
                        have mb5 : Blk ((((v2.setCell ⟨w.heap.size + 1, 0, none⟩ (.int .i64 a2)).setCell ⟨w.heap.size + 1, 1, none⟩ (.int .i64 (c))).setCell ⟨w.heap.size + 1, 2, none⟩ (.int .i64 (N + l))).setCell ⟨w.heap.size + 1, 3, none⟩ (.bool true)) (w.heap.size + 1) #[.int .i64 a2, .int .i64 (c), .int .i64 (N + l), .bool true] 27 := (((mb2.set 0 _).set 1 _).set 2 _).set 3 _
                        have hb5 := (((hb2.setCell (p := ⟨w.heap.size + 1, 0, none⟩) (Nat.le_succ _) (.int .i64 a2)).setCell (p := ⟨w.heap.size + 1, 1, none⟩) (Nat.le_succ _) (.int .i64 (c))).setCell (p := ⟨w.heap.size + 1, 2, none⟩) (Nat.le_succ _) (.int .i64 (N + l))).setCell (p := ⟨w.heap.size + 1, 3, none⟩) (Nat.le_succ _) (.bool true)
                        obtain ⟨g0, g1, g2, g3, g4, g5, g6, g7⟩ := geo_cells gb5
                        obtain ⟨k0, k1, k2, k3⟩ := watch_cells mb5
                        clear gb2 mb2 hb2 hb
                        have hP : decide (a0 ≤ N + l - (N + l)) = false := decide_eq_false (by omega)
                        go_wp2_with fail
                        refine (Dead_any 0 0 0 0 0 0 1 a0 a2 (c) (N + l) (N + l) true _ (by omega) (by omega) (by omega) (by omega) (by omega) (by omega)).mono ?_
                        rintro e v6 ⟨rfl, hc6⟩
                        rw [D1.out]
                        have gb6 := gb5.below hc6 gb5.lt
                        have mb6 := mb5.below hc6 mb5.lt
                        have hb6 := below_then hb5 hc6
                        clear g0 g1 g2 g3 g4 g5 g6 g7 k0 k1 k2 k3 gb5 mb5 hc6 hb5 D1
                        clear m0 m1 m2 m3 f0 f1 f2 f3
                        obtain ⟨g0, g1, g2, g3, g4, g5, g6, g7⟩ := geo_cells gb6
                        obtain ⟨k0, k1, k2, k3⟩ := watch_cells mb6
                        go_wp2_with fail
                        refine (Dead_any 0 0 0 0 0 0 1 a0 a2 (c) (N + l) (N + l + a0) true _ (by omega) (by omega) (by omega) (by omega) (by omega) (by omega)).mono ?_
                        rintro e v7 ⟨rfl, hc7⟩
                        rw [D2.out]
                        have gb7 := gb6.below hc7 gb6.lt
                        have mb7 := mb6.below hc7 mb6.lt
                        have hb7 := below_then hb6 hc7
                        clear g0 g1 g2 g3 g4 g5 g6 g7 k0 k1 k2 k3 gb6 mb6 hc7 hb6 D2
                        obtain ⟨g0, g1, g2, g3, g4, g5, g6, g7⟩ := geo_cells gb7
                        obtain ⟨k0, k1, k2, k3⟩ := watch_cells mb7
                        go_wp2_with fail
                        refine (Dead_any 0 0 0 0 0 0 1 a0 a2 (c) (N + l) (N + l + a0 - 1) true _ (by omega) (by omega) (by omega) (by omega) (by omega) (by omega)).mono ?_
                        rintro e v8 ⟨rfl, hc8⟩
                        rw [D3.out]
                        have gb8 := gb7.below hc8 gb7.lt
                        have mb8 := mb7.below hc8 mb7.lt
                        have hb8 := below_then hb7 hc8
                        clear g0 g1 g2 g3 g4 g5 g6 g7 k0 k1 k2 k3 gb7 mb7 hc8 hb7 D3
                        go_wp2_with fail
                        go_roundw
                        case rel => exact ⟨k + 1, N + l, c, N + l, a2, c, N + l, true, by omega, by go_num, rfl, rfl, rfl, gb8, mb8, hb8, HN⟩
                        simp [intOf]; omega
                      · replace y3 : 0 ≤ S := by omega
                        have hm : beatMay a2 (c) = true := decide_eq_true (by omega)
                        have hal := alive_same HA.out hm y1 y2 y3
                        have HN : Hid (AliveAt (k + 1) a2 (N + l) (c) (S) a2 (c) (S) true) := hal.1
                        have HS : Hid (sinceV wk wc ws wl (beatS a2 (c)) (N + l) = S) := hal.2
                        have HB := Lib.hid (beat_yes hm)
                        have HK := Lib.hid (seen_beat hm)
                        have hs := beatS_size hm
                        have D1 : Hid (deadB a0 a2 (S) true (N + l) = decide (a0 ≤ N + l - S)) := dead_now p4 p2 (by omega)
                        have D2 : Hid (deadB a0 a2 (S) true (S + a0) = true) := dead_at p4 p2
                        have D3 : Hid (deadB a0 a2 (S) true (S + a0 - 1) = false) := dead_ahead p4 p2
                        clear hal hm HA
                        go_wp2_with fail
                        refine (beatBytes_any a2 (c) _ htr).mono ?_
                        rintro e v1 ⟨rfl, hc1⟩
                        rw [HB.out.1, HB.out.2]
                        have gb1 := gb.below hc1 gb.lt
                        have mb1 := mb.below hc1 mb.lt
                        have hb1 := below_then hb hc1
                        have ht1 := ht.below hb1
                        clear g0 g1 g2 g3 g4 g5 g6 g7 m0 m1 m2 m3 gb mb hc1 l0 l2 htr HB
                        obtain ⟨m0, m1, m2, m3⟩ := watch_cells mb1
                        generalize beatS a2 (c) = T at *
                        go_wp2_with fail
                        refine (Look_any wk wc ws (N + l) wl T _ hs ht1).mono ?_
                        rintro e v2 ⟨rfl, hc2⟩
                        have HL : Hid (lookV wk wc ws wl T (N + l) = #[.int .i64 a2, .int .i64 (c), .int .i64 (S), .bool true]) := by
                          show _ = _
                          unfold lookV
                          rw [HK.out.1, HK.out.2, HS.out]
                        rw [HL.out]
                        have gb2 := gb1.below hc2 gb1.lt
                        have mb2 := mb1.below hc2 mb1.lt
                        have hb2 := below_then hb1 hc2
                        clear m0 m1 m2 m3 gb1 mb1 hc2 hb1 ht1 HL HK HS hs
                        obtain ⟨m0, m1, m2, m3⟩ := watch_cells mb2
                        have f0 := mb2.free 0
                        have f1 := mb2.free 1
                        have f2 := mb2.free 2
                        have f3 := mb2.free 3
                        have gb5 := (((gb2.other (c := w.heap.size + 1) (by omega) 0 (.int .i64 a2)).other (c := w.heap.size + 1) (by omega) 1 (.int .i64 (c))).other (c := w.heap.size + 1) (by omega) 2 (.int .i64 (S))).other (c := w.heap.size + 1) (by omega) 3 (.bool true)
                        have mb5 : Blk ((((v2.setCell ⟨w.heap.size + 1, 0, none⟩ (.int .i64 a2)).setCell ⟨w.heap.size + 1, 1, none⟩ (.int .i64 (c))).setCell ⟨w.heap.size + 1, 2, none⟩ (.int .i64 (S))).setCell ⟨w.heap.size + 1, 3, none⟩ (.bool true)) (w.heap.size + 1) #[.int .i64 a2, .int .i64 (c), .int .i64 (S), .bool true] 27 := (((mb2.set 0 _).set 1 _).set 2 _).set 3 _
                        have hb5 := (((hb2.setCell (p := ⟨w.heap.size + 1, 0, none⟩) (Nat.le_succ _) (.int .i64 a2)).setCell (p := ⟨w.heap.size + 1, 1, none⟩) (Nat.le_succ _) (.int .i64 (c))).setCell (p := ⟨w.heap.size + 1, 2, none⟩) (Nat.le_succ _) (.int .i64 (S))).setCell (p := ⟨w.heap.size + 1, 3, none⟩) (Nat.le_succ _) (.bool true)
                        obtain ⟨g0, g1, g2, g3, g4, g5, g6, g7⟩ := geo_cells gb5
                        obtain ⟨k0, k1, k2, k3⟩ := watch_cells mb5
                        clear gb2 mb2 hb2 hb
                        generalize hP : decide (a0 ≤ N + l - S) = P at *
                        have hPP : (P != P) = false := by simp
                        go_wp2_with fail
                        refine (Dead_any 0 0 0 0 0 0 1 a0 a2 (c) (S) (N + l) true _ (by omega) (by omega) (by omega) (by omega) (by omega) (by omega)).mono ?_
                        rintro e v6 ⟨rfl, hc6⟩
                        rw [D1.out]
                        have gb6 := gb5.below hc6 gb5.lt
                        have mb6 := mb5.below hc6 mb5.lt
                        have hb6 := below_then hb5 hc6
                        clear g0 g1 g2 g3 g4 g5 g6 g7 k0 k1 k2 k3 gb5 mb5 hc6 hb5 D1
                        clear m0 m1 m2 m3 f0 f1 f2 f3
                        obtain ⟨g0, g1, g2, g3, g4, g5, g6, g7⟩ := geo_cells gb6
                        obtain ⟨k0, k1, k2, k3⟩ := watch_cells mb6
                        go_wp2_with fail
                        refine (Dead_any 0 0 0 0 0 0 1 a0 a2 (c) (S) (S + a0) true _ (by omega) (by omega) (by omega) (by omega) (by omega) (by omega)).mono ?_
                        rintro e v7 ⟨rfl, hc7⟩
                        rw [D2.out]
                        have gb7 := gb6.below hc7 gb6.lt
                        have mb7 := mb6.below hc7 mb6.lt
                        have hb7 := below_then hb6 hc7
                        clear g0 g1 g2 g3 g4 g5 g6 g7 k0 k1 k2 k3 gb6 mb6 hc7 hb6 D2
                        obtain ⟨g0, g1, g2, g3, g4, g5, g6, g7⟩ := geo_cells gb7
                        obtain ⟨k0, k1, k2, k3⟩ := watch_cells mb7
                        go_wp2_with fail
                        refine (Dead_any 0 0 0 0 0 0 1 a0 a2 (c) (S) (S + a0 - 1) true _ (by omega) (by omega) (by omega) (by omega) (by omega) (by omega)).mono ?_
                        rintro e v8 ⟨rfl, hc8⟩
                        rw [D3.out]
                        have gb8 := gb7.below hc8 gb7.lt
                        have mb8 := mb7.below hc8 mb7.lt
                        have hb8 := below_then hb7 hc8
                        clear g0 g1 g2 g3 g4 g5 g6 g7 k0 k1 k2 k3 gb7 mb7 hc8 hb7 D3
                        go_wp2_with fail
                        go_roundw
                        case rel => exact ⟨k + 1, N + l, c, S, a2, c, S, true, by omega, by go_num, rfl, rfl, rfl, gb8, mb8, hb8, HN⟩
                        simp [intOf]; omega
                    · have hm : beatMay a2 (c + 1) = true := decide_eq_true (by omega)
                      have hal := alive_beat HA.out hm y1 y2
                      have HN : Hid (AliveAt (k + 1) a2 (N + l) (c + 1) (N + l) a2 (c + 1) (N + l) true) := hal.1
                      have HS : Hid (sinceV wk wc ws wl (beatS a2 (c + 1)) (N + l) = N + l) := hal.2
                      have HB := Lib.hid (beat_yes hm)
                      have HK := Lib.hid (seen_beat hm)
                      have hs := beatS_size hm
                      have D1 : Hid (deadB a0 a2 (N + l) true (N + l) = false) := by
                        show _ = _
                        rw [dead_now p4 p2 (by omega)]
                        exact decide_eq_false (by omega)
                      have D2 : Hid (deadB a0 a2 (N + l) true (N + l + a0) = true) := dead_at p4 p2
                      have D3 : Hid (deadB a0 a2 (N + l) true (N + l + a0 - 1) = false) := dead_ahead p4 p2
                      clear hal hm HA
                      go_wp2_with fail
                      refine (beatBytes_any a2 (c + 1) _ htr).mono ?_
                      rintro e v1 ⟨rfl, hc1⟩
                      rw [HB.out.1, HB.out.2]
                      have gb1 := gb.below hc1 gb.lt
                      have mb1 := mb.below hc1 mb.lt
                      have hb1 := below_then hb hc1
                      have ht1 := ht.below hb1
                      clear g0 g1 g2 g3 g4 g5 g6 g7 m0 m1 m2 m3 gb mb hc1 l0 l2 htr HB
                      obtain ⟨m0, m1, m2, m3⟩ := watch_cells mb1
                      generalize beatS a2 (c + 1) = T at *
                      go_wp2_with fail
                      refine (Look_any wk wc ws (N + l) wl T _ hs ht1).mono ?_
                      rintro e v2 ⟨rfl, hc2⟩
                      have HL : Hid (lookV wk wc ws wl T (N + l) = #[.int .i64 a2, .int .i64 (c + 1), .int .i64 (N + l), .bool true]) := by
                        show _ = _
                        unfold lookV
                        rw [HK.out.1, HK.out.2, HS.out]
                      rw [HL.out]
                      have gb2 := gb1.below hc2 gb1.lt
                      have mb2 := mb1.below hc2 mb1.lt
                      have hb2 := below_then hb1 hc2
                      clear m0 m1 m2 m3 gb1 mb1 hc2 hb1 ht1 HL HK HS hs
                      obtain ⟨m0, m1, m2, m3⟩ := watch_cells mb2
                      have f0 := mb2.free 0
                      have f1 := mb2.free 1
                      have f2 := mb2.free 2
                      have f3 := mb2.free 3
                      have gb5 := (((gb2.other (c := w.heap.size + 1) (by omega) 0 (.int .i64 a2)).other (c := w.heap.size + 1) (by omega) 1 (.int .i64 (c + 1))).other (c := w.heap.size + 1) (by omega) 2 (.int .i64 (N + l))).other (c := w.heap.size + 1) (by omega) 3 (.bool true)
                      have mb5 : Blk ((((v2.setCell ⟨w.heap.size + 1, 0, none⟩ (.int .i64 a2)).setCell ⟨w.heap.size + 1, 1, none⟩ (.int .i64 (c + 1))).setCell ⟨w.heap.size + 1, 2, none⟩ (.int .i64 (N + l))).setCell ⟨w.heap.size + 1, 3, none⟩ (.bool true)) (w.heap.size + 1) #[.int .i64 a2, .int .i64 (c + 1), .int .i64 (N + l), .bool true] 27 := (((mb2.set 0 _).set 1 _).set 2 _).set 3 _
                      have hb5 := (((hb2.setCell (p := ⟨w.heap.size + 1, 0, none⟩) (Nat.le_succ _) (.int .i64 a2)).setCell (p := ⟨w.heap.size + 1, 1, none⟩) (Nat.le_succ _) (.int .i64 (c + 1))).setCell (p := ⟨w.heap.size + 1, 2, none⟩) (Nat.le_succ _) (.int .i64 (N + l))).setCell (p := ⟨w.heap.size + 1, 3, none⟩) (Nat.le_succ _) (.bool true)
                      obtain ⟨g0, g1, g2, g3, g4, g5, g6, g7⟩ := geo_cells gb5
                      obtain ⟨k0, k1, k2, k3⟩ := watch_cells mb5
                      clear gb2 mb2 hb2 hb
                      have hP : decide (a0 ≤ N + l - (N + l)) = false := decide_eq_false (by omega)
                      go_wp2_with fail
                      refine (Dead_any 0 0 0 0 0 0 1 a0 a2 (c + 1) (N + l) (N + l) true _ (by omega) (by omega) (by omega) (by omega) (by omega) (by omega)).mono ?_
                      rintro e v6 ⟨rfl, hc6⟩
                      rw [D1.out]
                      have gb6 := gb5.below hc6 gb5.lt
                      have mb6 := mb5.below hc6 mb5.lt
                      have hb6 := below_then hb5 hc6
                      clear g0 g1 g2 g3 g4 g5 g6 g7 k0 k1 k2 k3 gb5 mb5 hc6 hb5 D1
                      clear m0 m1 m2 m3 f0 f1 f2 f3
                      obtain ⟨g0, g1, g2, g3, g4, g5, g6, g7⟩ := geo_cells gb6
                      obtain ⟨k0, k1, k2, k3⟩ := watch_cells mb6
                      go_wp2_with fail
                      refine (Dead_any 0 0 0 0 0 0 1 a0 a2 (c + 1) (N + l) (N + l + a0) true _ (by omega) (by omega) (by omega) (by omega) (by omega) (by omega)).mono ?_
                      rintro e v7 ⟨rfl, hc7⟩
                      rw [D2.out]
                      have gb7 := gb6.below hc7 gb6.lt
                      have mb7 := mb6.below hc7 mb6.lt
                      have hb7 := below_then hb6 hc7
                      clear g0 g1 g2 g3 g4 g5 g6 g7 k0 k1 k2 k3 gb6 mb6 hc7 hb6 D2
                      obtain ⟨g0, g1, g2, g3, g4, g5, g6, g7⟩ := geo_cells gb7
                      obtain ⟨k0, k1, k2, k3⟩ := watch_cells mb7
                      go_wp2_with fail
                      refine (Dead_any 0 0 0 0 0 0 1 a0 a2 (c + 1) (N + l) (N + l + a0 - 1) true _ (by omega) (by omega) (by omega) (by omega) (by omega) (by omega)).mono ?_
                      rintro e v8 ⟨rfl, hc8⟩
                      rw [D3.out]
                      have gb8 := gb7.below hc8 gb7.lt
                      have mb8 := mb7.below hc8 mb7.lt
                      have hb8 := below_then hb7 hc8
                      clear g0 g1 g2 g3 g4 g5 g6 g7 k0 k1 k2 k3 gb7 mb7 hc8 hb7 D3
                      go_wp2_with fail
                      go_roundw
                      case rel => exact ⟨k + 1, N + l, c + 1, N + l, a2, c + 1, N + l, true, by omega, by go_num, rfl, rfl, rfl, gb8, mb8, hb8, HN⟩
                      simp [intOf]; omega
              · have hkn : k = n := by omega
                subst hkn
                clear hlt HA
                rcases z7 with ⟨h0, rfl, _⟩ | ⟨h0, rfl, _⟩
                · have hd : decide ((0 : Int) < (k : Int)) = false := decide_eq_false (by omega)
                  go_wp2_with fail
                  refine (wakes_any _ htr).mono ?_
                  rintro e wz ⟨rfl, hbz⟩
                  have hbz' := below_then hb hbz
                  go_wp2_with fail
                  go_ret
                  exact ⟨rfl, hbz'⟩
                · have hd : decide ((0 : Int) < (k : Int)) = true := decide_eq_true (by omega)
                  go_wp2_with fail
                  refine (wakes_any _ htr).mono ?_
                  rintro e wz ⟨rfl, hbz⟩
                  have hbz' := below_then hb hbz
                  go_wp2_with fail
                  go_ret
                  exact ⟨rfl, hbz'⟩

/-! ### THE ROW's STEP -/
set_option maxRecDepth 100000 in
theorem lifted (os : Os) (started : os.Started) (H : Type) (enc : TypeId × Value → H) :
    ReturnsInHanded {} Tryd.checked os 3 .any (fun w args => (Rows.beatAliveSpec.pre enc Tryd.prog Tryd.f3 [] false w args ∧ laidMetH Tryd.prog laidL w) ∧ sizedMet enc Tryd.prog Tryd.f3 (OpenSpec.ofChange Rows.beatAliveSpec) false w args) (Rows.beatAliveSpec.post enc Tryd.prog Tryd.f3 false true false false) := by
  refine returnsInHanded_of_change_and (C := Tryd.checked) (X := fun w _ => laidMetH Tryd.prog laidL w) (fun _ _ _ hh h => h.of_heap hh) own started (by kernel_rfl) Tryd.func3
    (ChangeSpec.witness_shaped (enc := enc) (C := Tryd.checked) (os := os) (X := fun w _ => laidMetH Tryd.prog laidL w) false (World.doorLaid Tryd.prog 14 os) #[.int .i64 0, .slice none 0 0, .int .i64 0] 8 rfl (World.shaped_of_RefB (by kernel_rfl) (by kernel_rfl)) (by kernel_rfl) (by kernel_rfl) (by kernel_rfl) (door_met os _)) ?_
  intro W base args ds gs before hval0 hW _ _ hL _
  have hval : ∀ (j : Nat) t v, Tryd.f3.params[j]? = some t → args[j]? = some v → Value.okWide Tryd.prog W .any base t v := hval0
  have hW' := hW
  obtain ⟨p, q, hA0, hV, rfl, hfz, hnd⟩ := hW
  have hA : DataW.TrodAll enc Tryd.prog W 0 (fun _ => true) true Tryd.f3.params.toList args.toList ds p := hA0
  rw [Tryd.params3] at hA hval
  obtain ⟨v0, vs0, d0, ds0, p0, q0, hargs, rfl, rfl, h0, r0⟩ := trodAll_cons hA
  obtain ⟨v1, vs1, d1, ds1, p1, q1, rfl, rfl, rfl, h1, r1⟩ := trodAll_cons r0
  obtain ⟨v2, vs2, d2, ds2, p2, q2, rfl, rfl, rfl, h2, r2⟩ := trodAll_cons r1
  obtain ⟨rfl, rfl, rfl⟩ := trodAll_nil r2
  obtain rfl : args = #[v0, v1, v2] := by cases args; simp_all
  obtain ⟨rfl, rfl⟩ := trodVars_none hV
  obtain ⟨a0, rfl, rfl, rfl, w0⟩ := open_int Tryd.underlying3 (hval 0 3 v0 rfl rfl) h0
  have k1 := h1
  have lt1 : ∀ x ∈ p1, x.block < W.heap.size := by obtain ⟨m, hm⟩ := k1; exact DataW.trod_lt m _ _ _ hm
  obtain ⟨a1, len1, cap1, L1, B1, rfl, w1⟩ := open_looks (hval 1 22 v1 rfl rfl) h1
  obtain ⟨a2, rfl, rfl, rfl, w2⟩ := open_int Tryd.underlying3 (hval 2 3 v2 rfl rfl) h2
  clear hA0 hval0
  refine (walk a0 a1 len1 cap1 L1 B1 a2 W w0 w1 w2 (met_of_laid hL)).mono fun e W' ⟨he, bel⟩ => ?_
  subst he
  exact ⟨_, rfl, _, _, _, [], _, [], hW', trodAll_mk1 (shut_bool Tryd.underlying4 _), (trodAll_cons_mk (shut_int Tryd.underlying3 w0) (trodAll_cons_mk (Below.trod laidOut (by kernel_rfl) (of_decide_eq_true (by kernel_rfl)) k1 bel lt1) (trodAll_cons_mk (shut_int Tryd.underlying3 w2) trodAll_mk0))), rfl, bel.frame _, fun h => by cases h⟩

theorem over : Rows.beatAliveRow.holds Tryd.pinned (OpenSpec.ofChange Rows.beatAliveSpec) :=
  OpenClaim.holds_of_wide 3 Tryd.f3 rfl rfl rfl rfl rfl rfl rfl ⟨rfl, rfl, rfl, rfl, rfl⟩ rfl rfl rfl rfl rfl (by kernel_rfl) Tryd.func3 (by kernel_rfl)
    (of_decide_eq_true (by kernel_rfl)) (by unfold Func.isWrapper; first | (rw [if_pos (by decide +kernel)]; kernel_rfl) | (rw [if_neg (by decide +kernel)]; exact ⟨rfl, rfl⟩))
    (fun os started H enc _ => lifted os started H enc)

/-- The statement. -/
theorem proved : Rows.BeatAliveSaid := over
#print axioms proved

/-- THE TIED CARD. -/
theorem card : Rows.BeatAliveCardSaid :=
  Claim7.holds_tied_plain_at .later [] [.data] true (true, "1a2a087acac38c139b718ecf9da16be58d9ebb15f3318b59ad9d4535046fa1d6") false
    proved (fun _ h => by cases h) (by kernel_rfl) (fun _ h => by cases h) beatAlive_row_tie rfl ⟨rfl, rfl⟩ (by kernel_rfl) rfl
    (fun f fn hf hfn => by
      obtain rfl : f = 3 := Option.some.inj ((show Tryd.prog.funcNamed "breakwater/breakwaterlaw07.BeatAlive" = some 3 by kernel_rfl).symm.trans hf) |>.symm
      obtain rfl : fn = Tryd.f3 := (Option.some.inj (Tryd.func3.symm.trans hfn)).symm
      exact ⟨by kernel_rfl, fun j t ht => by
        rw [Tryd.params3] at ht
        have hm : t ∈ [3, 22, 3] := by simpa using Array.mem_of_getElem? ht
        have hall : ([3, 22, 3].all fun u => !Tryd.prog.wantsStandIn u) = true := by kernel_rfl
        exact (show Tryd.prog.wantsStandIn t = false by simpa using List.all_eq_true.1 hall t hm)⟩)
    (by kernel_rfl)
#print axioms card
end Go.Proofs.YtneioippiionjaaDoor.beatAlive
