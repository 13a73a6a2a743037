/-
  The program's device: whether fenced keys may be, whether caches may be; whether a device may be: by contract.
-/
import Derived.Test.YteighdlhonegpaaDevMay
import Derived.Test.YteighdlhonegpaaNumInts
import Derived.Test.YteighdlhonegpaaNumPut
import Derived.Test.YteighdlhonegpaaDevOwn
namespace Go.Proofs.Yteighdlhonegpaa
open Go.RowKit
set_option linter.unusedVariables false
set_option linter.unusedSimpArgs false

theorem rise_next {F : List Int} (h : F.Pairwise (· < ·)) {k : Nat} (hk : k < F.length) : ∀ h : k + 1 < F.length, F[k] < F[k + 1] := fun h2 =>
  List.pairwise_iff_getElem.1 h k (k + 1) hk h2 (by omega)

set_option maxRecDepth 100000 in
set_option maxHeartbeats 1000000 in
theorem fencedMay_yes (v : Value) (D : Dev) (w : World) (hD : DevAt w w.heap.size v D) (hm : MayD D) :
    Calls Try.prog 44 #[v] w fun e w' => e = .returned (.bool true) ∧ Below w.heap.size w w' := by
  have hD0 := hD
  obtain ⟨vS, vC, vK, vF, rfl, _, _, _, ⟨aF, cF, rfl, hFc, hFm, hF⟩⟩ := hD
  have n2 := hm.n2
  have HFR := Lib.hid hm.fr
  have HFS := Lib.hid hm.fs
  have HG : Hid (∀ x : Int, Given D.K.length D.n x → decide (Given D.K.length D.n x) = true ∧ -9223372036854775808 ≤ x ∧ x ≤ 9223372036854775807) := fun x h => ⟨decide_eq_true h, (key_bd h n2).1, (key_bd h n2).2⟩
  clear hm
  obtain ⟨W0, hW⟩ : ∃ W0, W0 = w.alloc (.cells #[vS, vC, vK, .int .i64 D.n, .slice aF D.F.length cF] 55) := ⟨_, rfl⟩
  have hb : Below w.heap.size w W0 := hW ▸ below_alloc w _
  have hlt : w.heap.size < W0.heap.size := by rw [hW]; simp
  have p0 : Box5 W0 w.heap.size vS vC vK D.n (.slice aF D.F.length cF) := hW ▸ Box5.new w _ _ _ _ _ _
  have HF := lies_up hF hb
  have HD := Lib.hid (hD0.up hb)
  obtain ⟨nF, hFl⟩ : ∃ n, D.F.length = n := ⟨_, rfl⟩
  rw [hFl] at HF hFc p0 hW ⊢
  have c4 := p0.c4
  unfold maxLen at hFm
  go_enter Try.func44, Try.ntmps44
  go_wp2_with fail
  rw [← hW]
  clear hW c4
  go_loopw [3, 5, 10] (fun a _ i wr => ∃ k : Nat, ∃ x : Int, k ≤ nF ∧ i = .int .i64 (k : Int) ∧ a = .int .i64 x ∧ Hid (∀ h : k < D.F.length, x < D.F[k]) ∧ Below W0.heap.size W0 wr) (fun _ _ i _ => nF - (intOf i).toNat)
  case atStart => exact ⟨0, 0, Nat.zero_le _, rfl, rfl, fun h => by have := (HFS.out _ (List.getElem_mem h)).1; omega, Below.refl _ _⟩
  case round =>
    obtain ⟨k, a, hk, rfl, rfl, HA, hbr⟩ := hrel
    by_cases hlk : k < nF
    · have hin : k < D.F.length := by omega
      obtain ⟨ad, e1, _, hc⟩ := int_at (lies_up HF hbr) hlk hin
      subst e1
      have hax := HA.out hin
      have HN := Lib.hid (rise_next HFR.out hin)
      have hg := HFS.out _ (List.getElem_mem hin)
      obtain ⟨x, hx⟩ : ∃ x, D.F[k]'hin = x := ⟨_, rfl⟩
      rw [hx] at hc HN hg hax
      have q := p0.below hbr hlt
      have q0 := q.c0
      have q1 := q.c1
      have q2 := q.c2
      have q3 := q.c3
      have q4 := q.c4
      have HDr := Lib.hid (HD.out.up hbr)
      clear q hx HF HD p0 HA
      obtain ⟨g1, g3, g4⟩ := HG.out x hg
      have hcall := given_any _ D x _ wr HDr.out g3 g4
      rw [g1, hFl] at hcall
      have hle : decide (x ≤ a) = false := decide_eq_false (by omega)
      clear g1 hg HDr HG HFS HFR
      go_wp2_with fail
      refine hcall.mono ?_
      rintro e w' ⟨rfl, hb2⟩
      go_wp2_with fail
      go_roundw
      case rel => exact ⟨k + 1, x, by omega, by go_num, rfl, HN, hbr.trans (hb2.mono hbr.size)⟩
      case measure => simp [intOf]; omega
    · have hkn : k = nF := by omega
      go_wp2_with fail
      go_ret
      exact ⟨rfl, below_then hb hbr⟩

/-- A cache of a device. -/
theorem slC_at {w : World} {B n : Nat} {A : Option Addr} {f : Nat → Value} {C : List (List Cel)} (h : Lies w B A n ((List.range C.length).map f)) (hs : ∀ i, i < C.length → SlC w B (f i) (C.getD i [])) (hn : C.length = n) {k : Nat} (hk : k < n) :
    ∃ ad : Addr, ∃ a m c, A = some ad ∧ ad.block < B ∧ w.cell? (ad.add k) = some (.slice a m c) ∧ f k = .slice a m c ∧ (C.getD k []).length = m ∧ m ≤ c ∧ c ≤ maxLen ∧ Lies w B a (m * 2) (celV (C.getD k [])) := by
  obtain ⟨ad, e, hb, hc⟩ := h.2 (by omega)
  obtain ⟨a, c, e2, h1, h2, h3⟩ := hs k (by omega)
  refine ⟨ad, a, _, c, e, hb, ?_, e2, rfl, h1, h2, h3⟩
  rw [← e2]
  exact hc k _ (by rw [List.getElem?_map, List.getElem?_range (by omega)]; rfl)
theorem getD_mem {C : List (List Cel)} {k : Nat} (h : k < C.length) : C.getD k [] ∈ C := by
  rw [List.getD, List.getElem?_eq_getElem h]
  exact List.getElem_mem h

/-- Which sectors a cache has had so far. -/
def LastOk (L : List Int) (i j : Nat) (l : List Cel) : Prop := ∀ q : Nat, ∀ h : q < L.length, (L[q] = (i : Int) + 1 → ∃ m : Nat, ∃ hm : m < l.length, m < j ∧ (l[m]).1 = (q : Int)) ∧ L[q] ≤ (i : Int) + 1
theorem last_start {L : List Int} {i : Nat} (l : List Cel) (h : ∀ q : Nat, ∀ h : q < L.length, L[q] ≤ (i : Int)) : LastOk L i 0 l := fun q hq => ⟨fun e => by have := h q hq; omega, by have := h q hq; omega⟩
theorem last_fresh {L : List Int} {i j : Nat} {l : List Cel} (h : LastOk L i j l) (hd : (l.map Prod.fst).Nodup) (hj : j < l.length) {s : Nat} (hs : (l[j]).1 = (s : Int)) (hq : s < L.length) : (L[s] == (i : Int) + 1) = false := by
  apply beq_eq_false_iff_ne.2
  intro e
  obtain ⟨m, hm, hmj, e2⟩ := (h s hq).1 e
  have h1 : (l.map Prod.fst)[m]'(by simpa using hm) = (l.map Prod.fst)[j]'(by simpa using hj) := by simp [e2, hs]
  have := (List.getElem_inj hd).1 h1
  omega
theorem last_set {L : List Int} {i j : Nat} {l : List Cel} (h : LastOk L i j l) (hj : j < l.length) {s : Nat} (hs : (l[j]).1 = (s : Int)) : LastOk (L.set s ((i : Int) + 1)) i (j + 1) l := fun q hq => by
  rw [List.length_set] at hq
  rw [List.getElem_set]
  split
  · rename_i e
    subst e
    exact ⟨fun _ => ⟨j, hj, by omega, hs⟩, Int.le_refl _⟩
  · exact ⟨fun e => by obtain ⟨m, h1, h2, h3⟩ := (h q hq).1 e; exact ⟨m, h1, by omega, h3⟩, (h q hq).2⟩

set_option maxRecDepth 100000 in
set_option maxHeartbeats 2000000 in
theorem cachesMay_yes (v : Value) (D : Dev) (w : World) (hD : DevAt w w.heap.size v D) (hm : MayD D) (hS30 : D.S.length ≤ 1099511627776) :
    Calls Try.prog 42 #[v] w fun e w' => e = .returned (.bool true) ∧ Below w.heap.size w w' := by
  have hD0 := hD
  obtain ⟨i0, hi, hz0, hz1, hz2⟩ := info_parts infoInt
  obtain ⟨vS, vC, vK, vF, rfl, ⟨aS, cS, rfl, hSc, hSm, _⟩, ⟨aC, cC, rfl, hCc, hCm, f, hC, hCs⟩, _, _⟩ := hD
  have HCS := Lib.hid hm.cs
  have hck := hm.ck
  have h16 := hm.k16
  clear hm
  obtain ⟨W0, hW⟩ : ∃ W0, W0 = w.alloc (.cells #[.slice aS D.S.length cS, .slice aC D.C.length cC, vK, .int .i64 D.n, vF] 55) := ⟨_, rfl⟩
  have hb : Below w.heap.size w W0 := hW ▸ below_alloc w _
  have hlt : w.heap.size < W0.heap.size := by rw [hW]; simp
  have p0 : Box5 W0 w.heap.size (.slice aS D.S.length cS) (.slice aC D.C.length cC) vK D.n vF := hW ▸ Box5.new w _ _ _ _ _ _
  have HD := Lib.hid (hD0.up hb)
  have HC := lies_up hC hb
  have HS : Hid (∀ i, i < D.C.length → SlC W0 W0.heap.size (f i) (D.C.getD i [])) := fun i hi => (hCs i hi).up hb
  obtain ⟨nC, hCl⟩ : ∃ n, D.C.length = n := ⟨_, rfl⟩
  obtain ⟨nS, hSl⟩ : ∃ n, D.S.length = n := ⟨_, rfl⟩
  have HCM : Hid (∀ k, k < nC → CacheOk (D.C.getD k []) nS) := fun k hk => hSl ▸ HCS.out _ (getD_mem (by omega))
  rw [hCl] at hCc p0 hW hck ⊢
  have hC16 : nC ≤ 16 := by omega
  clear hck h16
  rw [hSl] at hSc p0 hW hS30 ⊢
  have c0 := p0.c0
  unfold maxLen at hSm hCm
  clear HCS
  go_enter Try.func42, Try.ntmps42
  have hG0 : w.heap.size + 1 = W0.heap.size := by rw [hW]; simp
  go_wp2_with (at_make; refine wpList_make_room _ rfl _ _ 27 rfl (w.heap.size + 1) 3 i0 (.int .i64 0) Try.underlying27 hi hz0 hz1 rfl _ _ _ _ nS nS rfl rfl rfl rfl (Nat.le_refl _) ?c3 ?c4 ?c5 ?_)
  case c3 => rw [hz2]; omega
  case c4 => unfold maxLen; omega
  case c5 => simp
  intro w1 hown1 hg1 hs1 _
  rw [← hW] at hg1 hown1
  have hb1 : Below W0.heap.size W0 w1 := (Below.refl _ _).grown hg1 (Nat.le_refl _) (by intro j hj; cases hj)
  rw [hG0] at hown1
  rw [← hW]
  clear hs1 hG0
  obtain ⟨G, hG⟩ : ∃ G, W0.heap.size = G := ⟨_, rfl⟩
  rw [hG] at hown1 hb1 hlt HD HC HS ⊢
  have q := p0.below hb1 hlt
  have q1 := q.c1
  clear q hg1 hW c0
  go_wp2_with fail
  clear q1
  go_loopw [4, 5, 7, 17, 22, 23, 24] (fun _ _ _ i _ _ _ wr => ∃ k : Nat, ∃ L : List Int, k ≤ nC ∧ i = .int .i64 (k : Int) ∧ Below G W0 wr ∧ wr.ownsRow G 3 1 (.slice (some ⟨G, 0, none⟩) nS nS) nS (L.map (Value.int .i64)) ∧ Hid (∀ q : Nat, ∀ h : q < L.length, L[q] ≤ (k : Int))) (fun _ _ _ i _ _ _ _ => nC - (intOf i).toNat)
  case atStart => exact ⟨0, List.replicate nS 0, Nat.zero_le _, rfl, hb1, by rw [List.map_replicate]; exact hown1, fun q h => by simp⟩
  case round =>
    obtain ⟨k, L, hk, rfl, hbr, hown, HL⟩ := hrel
    by_cases hlk : k < nC
    · obtain ⟨ad, a, m, c, e1, hab, hcc, e2, hm, hmc, hcm, hla⟩ := slC_at ((HC.keep fun _ hp => hbr.cell hp)) (fun i hi => (HS.out i hi).keep fun _ hp => hbr.cell hp) rfl (k := k) (by omega)
      subst e1
      have HOK := Lib.hid (HCM.out k hlk)
      have HLM := Lib.hid hm
      generalize D.C.getD k [] = l at *
      clear e2 hm
      unfold maxLen at hcm
      go_wp2_with fail
      go_loopw [7, 24] (fun _ j wq => ∃ n : Nat, ∃ M : List Int, n ≤ m ∧ j = .int .i64 (n : Int) ∧ Below G W0 wq ∧ wq.ownsRow G 3 1 (.slice (some ⟨G, 0, none⟩) nS nS) nS (M.map (Value.int .i64)) ∧ Hid (LastOk M k n l)) (fun _ j _ => m - (intOf j).toNat)
      case atStart => exact ⟨0, L, Nat.zero_le _, rfl, hbr, hown, last_start _ HL.out⟩
      case round =>
        obtain ⟨n, M, hn, rfl, hbq, hownq, HM⟩ := hrel
        by_cases hln : n < m
        · have hnl : n < l.length := by rw [HLM.out]; exact hln
          have hcn := HOK.out.a _ (List.getElem_mem hnl)
          have hnd := HOK.out.d
          obtain ⟨da, ea, hda, hd1, hd2⟩ := cel_at ((hla.keep fun p hp => (World.cell?_of_block (hbq.block _ hp)).trans (World.cell?_of_block (hbr.block _ hp)).symm)) HLM.out hln
          subst ea
          obtain ⟨x, hx⟩ : ∃ x, l[n]'hnl = x := ⟨_, rfl⟩
          rw [hx] at hcn hd1 hd2
          obtain ⟨xs, xb⟩ := x
          obtain ⟨hx0, hx1, hx2⟩ := hcn
          simp only at hx0 hx1 hx2 hd1 hd2
          have hd3 := hd2
          rw [← add_twice, add_one] at hd3
          obtain ⟨s, rfl⟩ := Int.eq_ofNat_of_zero_le hx0
          have hML : M.length = nS := by have := hownq.1; simpa using this
          have HF := Lib.hid (last_fresh HM.out hnd hnl (s := s) (by rw [hx]) (by omega))
          have HM2 := Lib.hid (last_set HM.out hnl (s := s) (by rw [hx]))
          have hsM : s < M.length := by omega
          have HLong : tooL xb = false := decide_eq_false (by omega)
          obtain ⟨y, hy⟩ : ∃ y, M[s]'hsM = y := ⟨_, rfl⟩
          have hys : (y == (k : Int) + 1) = false := by rw [← hy]; exact HF.out
          obtain ⟨W1, hW1⟩ : ∃ W1, W1 = wr.alloc (.cells #[.int .i64 (s : Int), .string xb] 59) := ⟨_, rfl⟩
          have hbW : Below wr.heap.size wr W1 := hW1 ▸ below_alloc wr _
          have pc : Blk W1 wr.heap.size #[.int .i64 (s : Int), .string xb] 59 := hW1 ▸ Blk.new wr _ _
          have hGq : G < wr.heap.size := (hownq.lt G rfl).2
          have hb0W : Below G W0 W1 := hbq.trans (hbW.mono (by omega))
          have hcall := has_any _ D (s : Int) _ W1 ((HD.out.keep fun p hp => hb0W.cell hp))
          have hhs : hasB nS (s : Int) = true := decide_eq_true ⟨by omega, by omega⟩
          rw [hSl, hCl, hhs] at hcall
          have q := p0.below hb0W hlt
          have q0 := q.c0
          have q1 := q.c1
          have q2 := q.c2
          have q3 := q.c3
          have q4 := q.c4
          have htl := tooLong_any xb
          rw [HLong] at htl
          have hownW := own_up hownq hbW
          rw [hW1] at q0 q1 q2 q3 q4
          clear q HF HM hownq hx hnd HD HC HS HOK HCM hla
          go_wp2_with fail
          rw [← hW1]
          refine hcall.mono ?_
          rintro e w2 ⟨rfl, hb2⟩
          have pc2 := pc.below hb2 (by rw [hW1]; simp)
          have e0 : w2.cell? ⟨wr.heap.size, 0, none⟩ = some (.int .i64 (s : Int)) := pc2.cell 0 _ rfl
          have e1 : w2.cell? ⟨wr.heap.size, 1, none⟩ = some (.string xb) := pc2.cell 1 _ rfl
          have own2 := own_up hownW hb2
          have e2 : w2.cell? ⟨G, s, none⟩ = some (.int .i64 y) := by
            rw [own2.cellAt s (by omega), List.getElem?_map, List.getElem?_eq_getElem hsM, hy]; rfl
          have e3 : w2.frozen? ⟨G, s, none⟩ = false := own2.frozenAt s
          have own3 := (own2.stored s (.int .i64 ((k : Int) + 1))).1
          have hb3 : Below G W0 (w2.setCell ⟨G, s, none⟩ (.int .i64 ((k : Int) + 1))) := (hb0W.trans (hb2.mono (by rw [hW1]; simp; omega))).setCell (by simp) _
          clear hcall pc pc2 hownW own2 hb2 hb0W hW1 q0 q1 q2 q3 q4 hbW
          go_wp2_with fail
          refine (htl _).mono ?_
          rintro e w3 ⟨rfl, rfl⟩
          go_wp2_with fail
          go_roundw
          case rel => exact ⟨n + 1, M.set s ((k : Int) + 1), by omega, by go_num, hb3, by rw [List.map_set]; exact own3, HM2.out⟩
          case measure => simp [intOf]; omega
        · have hnm : n = m := by omega
          go_wp2_with fail
          go_roundw
          case rel => exact ⟨k + 1, M, by omega, by go_num, hbq, hownq, fun q h => by have := (HM.out q h).2; omega⟩
          case measure => simp [intOf]; omega
    · have hkn : k = nC := by omega
      go_wp2_with fail
      go_ret
      exact ⟨rfl, hb.trans (hbr.mono (by omega))⟩

set_option maxRecDepth 100000 in
set_option maxHeartbeats 1000000 in
theorem may_any (v : Value) (D : Dev) (b : Bool) (w : World) (hD : DevAt w w.heap.size v D) (hS30 : D.S.length ≤ 1099511627776) (hb : sMayB D.S = b) (hm : b = true → MayD D) :
    Calls Try.prog 21 #[v] w fun e w' => e = .returned (.bool b) ∧ Below w.heap.size w w' := by
  obtain ⟨vS, vC, vK, vF, e1, _⟩ := id hD
  obtain ⟨W0, hW⟩ : ∃ W0, W0 = w.alloc (.cells #[vS, vC, vK, .int .i64 D.n, vF] 55) := ⟨_, rfl⟩
  have hb0 : Below w.heap.size w W0 := hW ▸ below_alloc w _
  have hlt : w.heap.size < W0.heap.size := by rw [hW]; simp
  have p0 : Box5 W0 w.heap.size vS vC vK D.n vF := hW ▸ Box5.new w _ _ _ _ _ _
  have HD := Lib.hid (hD.up hb0)
  have HM := Lib.hid hm
  clear hD hm
  subst e1
  have hc1 := sectorsMay_any _ D W0 HD.out
  rw [hb] at hc1
  clear hb
  go_enter Try.func21, Try.ntmps21
  go_wp2_with fail
  rw [← hW]
  clear hW
  refine hc1.mono ?_
  rintro e w1 ⟨rfl, hb1⟩
  clear hc1
  cases b with
  | false =>
    go_wp2_with fail
    go_ret
    exact ⟨rfl, below_then hb0 hb1⟩
  | true =>
    have hm := Lib.hid (HM.out rfl)
    clear HM
    have q := p0.below hb1 hlt
    have q0 := q.c0
    have q1 := q.c1
    have q2 := q.c2
    have q3 := q.c3
    have q4 := q.c4
    have HD1 := Lib.hid (HD.out.up hb1)
    have hlt1 := Nat.lt_of_lt_of_le hlt hb1.size
    have hc2 := nodesMay_yes _ D _ w1 HD1.out hm.out
    clear HD p0
    go_wp2_with fail
    refine hc2.mono ?_
    rintro e w2 ⟨rfl, hb2⟩
    clear hc2 q0 q1 q2 q3 q4
    have q' := q.below hb2 hlt1
    clear q
    have q0 := q'.c0
    have q1 := q'.c1
    have q2 := q'.c2
    have q3 := q'.c3
    have q4 := q'.c4
    have HD2 := Lib.hid (HD1.out.up hb2)
    have hlt2 := Nat.lt_of_lt_of_le hlt1 hb2.size
    have hc3 := cachesMay_yes _ D w2 HD2.out hm.out hS30
    clear HD1
    go_wp2_with fail
    refine hc3.mono ?_
    rintro e w3 ⟨rfl, hb3⟩
    clear hc3 q0 q1 q2 q3 q4
    have q := q'.below hb3 hlt2
    clear q'
    have q0 := q.c0
    have q1 := q.c1
    have q2 := q.c2
    have q3 := q.c3
    have q4 := q.c4
    have HD3 := Lib.hid (HD2.out.up hb3)
    have hlt3 := Nat.lt_of_lt_of_le hlt2 hb3.size
    have hc4 := keysMay_yes _ D w3 HD3.out hm.out
    clear HD2
    go_wp2_with fail
    refine hc4.mono ?_
    rintro e w4 ⟨rfl, hb4⟩
    clear hc4 q0 q1 q2 q3 q4
    have q' := q.below hb4 hlt3
    clear q
    have q0 := q'.c0
    have q1 := q'.c1
    have q2 := q'.c2
    have q3 := q'.c3
    have q4 := q'.c4
    have HD4 := Lib.hid (HD3.out.up hb4)
    have hc5 := fencedMay_yes _ D w4 HD4.out hm.out
    clear HD3
    go_wp2_with fail
    refine hc5.mono ?_
    rintro e w5 ⟨rfl, hb5⟩
    go_wp2_with fail
    go_ret
    exact ⟨rfl, below_then (below_then (below_then (below_then (below_then hb0 hb1) hb2) hb3) hb4) hb5⟩

end Go.Proofs.Yteighdlhonegpaa
