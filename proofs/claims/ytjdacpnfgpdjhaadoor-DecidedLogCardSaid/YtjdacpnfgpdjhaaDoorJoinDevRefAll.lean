/- Joined: DevMayB, DevRefB, DevRefC, DevMayAll, DevMayAllB, DevRefAll. -/
import Derived.Test.YtjdacpnfgpdjhaaDoorDevMay
import Derived.Test.YtjdacpnfgpdjhaaDoorNumInts
import Derived.Test.YtjdacpnfgpdjhaaDoorJoinDevAt
import Derived.Test.YtjdacpnfgpdjhaaDoorDevOwn
import Derived.Test.YtjdacpnfgpdjhaaDoorDevRefA
import Derived.Deep.RegionHeld3
/-
  The program's device: whether fenced keys may be, whether caches may be; whether a device may be: by contract.
-/
namespace Go.Proofs.YtjdacpnfgpdjhaaDoor
open Go.RowKit
set_option linter.unusedVariables false
set_option linter.unusedSimpArgs false

theorem rise_next {F : List Int} (h : F.Pairwise (· < ·)) {k : Nat} (hk : k < F.length) : ∀ h : k + 1 < F.length, F[k] < F[k + 1] := fun h2 =>
  List.pairwise_iff_getElem.1 h k (k + 1) hk h2 (by omega)

set_option maxRecDepth 100000 in
set_option maxHeartbeats 1000000 in
theorem fencedMay_yes (v : Value) (D : Dev) (w : World) (hD : DevAt w w.heap.size v D) (hm : MayD D) :
    Calls Tryd.prog 101 #[v] w fun e w' => e = .returned (.bool true) ∧ Below w.heap.size w w' := by
  have hD0 := hD
  obtain ⟨vS, vC, vK, vF, rfl, _, _, _, ⟨aF, cF, rfl, hFc, hFm, hF⟩⟩ := hD
  have n2 := hm.n2
  have HFR := Lib.hid hm.fr
  have HFS := Lib.hid hm.fs
  have HG : Hid (∀ x : Int, Given D.K.length D.n x → decide (Given D.K.length D.n x) = true ∧ -9223372036854775808 ≤ x ∧ x ≤ 9223372036854775807) := fun x h => ⟨decide_eq_true h, (key_bd h n2).1, (key_bd h n2).2⟩
  clear hm
  obtain ⟨W0, hW⟩ : ∃ W0, W0 = w.alloc (.cells #[vS, vC, vK, .int .i64 D.n, .slice aF D.F.length cF] 126) := ⟨_, rfl⟩
  have hb : Below w.heap.size w W0 := hW ▸ below_alloc w _
  have hlt : w.heap.size < W0.heap.size := by rw [hW]; simp
  have p0 : Box5 W0 w.heap.size vS vC vK D.n (.slice aF D.F.length cF) := hW ▸ Box5.new w _ _ _ _ _ _
  have HF := lies_up hF hb
  have HD := Lib.hid (hD0.up hb)
  obtain ⟨nF, hFl⟩ : ∃ n, D.F.length = n := ⟨_, rfl⟩
  rw [hFl] at HF hFc p0 hW ⊢
  have c4 := p0.c4
  unfold maxLen at hFm
  go_enter Tryd.func101, Tryd.ntmps101
  go_wp2_with fail
  rw [← hW]
  clear hW c4
  go_loopw [3, 5, 10] (fun a _ i wr => ∃ k : Nat, ∃ x : Int, k ≤ nF ∧ i = .int .i64 (k : Int) ∧ a = .int .i64 x ∧ Hid (∀ h : k < D.F.length, x < D.F[k]) ∧ Below W0.heap.size W0 wr) (fun _ _ i _ => nF - (intOf i).toNat)
  case atStart => exact ⟨0, 0, Nat.zero_le _, rfl, rfl, fun h => by have := (HFS.out _ (List.getElem_mem h)).1; omega, Below.refl _ _⟩
  case round =>
    obtain ⟨k, a, hk, rfl, rfl, HA, hbr⟩ := hrel
    by_cases hlk : k < nF
    · have hin : k < D.F.length := by omega
      obtain ⟨ad, e1, _, hc⟩ := int_at (lies_up HF hbr) hlk hin
      subst e1
      have hax := HA.out hin
      have HN := Lib.hid (rise_next HFR.out hin)
      have hg := HFS.out _ (List.getElem_mem hin)
      obtain ⟨x, hx⟩ : ∃ x, D.F[k]'hin = x := ⟨_, rfl⟩
      rw [hx] at hc HN hg hax
      have q := p0.below hbr hlt
      have q0 := q.c0
      have q1 := q.c1
      have q2 := q.c2
      have q3 := q.c3
      have q4 := q.c4
      have HDr := Lib.hid (HD.out.up hbr)
      clear q hx HF HD p0 HA
      obtain ⟨g1, g3, g4⟩ := HG.out x hg
      have hcall := given_any _ D x _ wr HDr.out g3 g4
      rw [g1, hFl] at hcall
      have hle : decide (x ≤ a) = false := decide_eq_false (by omega)
      clear g1 hg HDr HG HFS HFR
      go_wp2_with fail
      refine hcall.mono ?_
      rintro e w' ⟨rfl, hb2⟩
      go_wp2_with fail
      go_roundw
      case rel => exact ⟨k + 1, x, by omega, by go_num, rfl, HN, hbr.trans (hb2.mono hbr.size)⟩
      case measure => simp [intOf]; omega
    · have hkn : k = nF := by omega
      go_wp2_with fail
      go_ret
      exact ⟨rfl, below_then hb hbr⟩

/-- A cache of a device. -/
theorem slC_at {w : World} {B n : Nat} {A : Option Addr} {f : Nat → Value} {C : List (List Cel)} (h : Lies w B A n ((List.range C.length).map f)) (hs : ∀ i, i < C.length → SlC w B (f i) (C.getD i [])) (hn : C.length = n) {k : Nat} (hk : k < n) :
    ∃ ad : Addr, ∃ a m c, A = some ad ∧ ad.block < B ∧ w.cell? (ad.add k) = some (.slice a m c) ∧ f k = .slice a m c ∧ (C.getD k []).length = m ∧ m ≤ c ∧ c ≤ maxLen ∧ Lies w B a (m * 2) (celV (C.getD k [])) := by
  obtain ⟨ad, e, hb, hc⟩ := h.2 (by omega)
  obtain ⟨a, c, e2, h1, h2, h3⟩ := hs k (by omega)
  refine ⟨ad, a, _, c, e, hb, ?_, e2, rfl, h1, h2, h3⟩
  rw [← e2]
  exact hc k _ (by rw [List.getElem?_map, List.getElem?_range (by omega)]; rfl)
theorem getD_mem {C : List (List Cel)} {k : Nat} (h : k < C.length) : C.getD k [] ∈ C := by
  rw [List.getD, List.getElem?_eq_getElem h]
  exact List.getElem_mem h

/-- Which sectors a cache has had so far. -/
def LastOk (L : List Int) (i j : Nat) (l : List Cel) : Prop := ∀ q : Nat, ∀ h : q < L.length, (L[q] = (i : Int) + 1 → ∃ m : Nat, ∃ hm : m < l.length, m < j ∧ (l[m]).1 = (q : Int)) ∧ L[q] ≤ (i : Int) + 1
theorem last_start {L : List Int} {i : Nat} (l : List Cel) (h : ∀ q : Nat, ∀ h : q < L.length, L[q] ≤ (i : Int)) : LastOk L i 0 l := fun q hq => ⟨fun e => by have := h q hq; omega, by have := h q hq; omega⟩
theorem last_fresh {L : List Int} {i j : Nat} {l : List Cel} (h : LastOk L i j l) (hd : (l.map Prod.fst).Nodup) (hj : j < l.length) {s : Nat} (hs : (l[j]).1 = (s : Int)) (hq : s < L.length) : (L[s] == (i : Int) + 1) = false := by
  apply beq_eq_false_iff_ne.2
  intro e
  obtain ⟨m, hm, hmj, e2⟩ := (h s hq).1 e
  have h1 : (l.map Prod.fst)[m]'(by simpa using hm) = (l.map Prod.fst)[j]'(by simpa using hj) := by simp [e2, hs]
  have := (List.getElem_inj hd).1 h1
  omega
theorem last_set {L : List Int} {i j : Nat} {l : List Cel} (h : LastOk L i j l) (hj : j < l.length) {s : Nat} (hs : (l[j]).1 = (s : Int)) : LastOk (L.set s ((i : Int) + 1)) i (j + 1) l := fun q hq => by
  rw [List.length_set] at hq
  rw [List.getElem_set]
  split
  · rename_i e
    subst e
    exact ⟨fun _ => ⟨j, hj, by omega, hs⟩, Int.le_refl _⟩
  · exact ⟨fun e => by obtain ⟨m, h1, h2, h3⟩ := (h q hq).1 e; exact ⟨m, h1, by omega, h3⟩, (h q hq).2⟩

set_option maxRecDepth 100000 in
set_option maxHeartbeats 2000000 in
theorem cachesMay_yes (v : Value) (D : Dev) (w : World) (hD : DevAt w w.heap.size v D) (hm : MayD D) (hS30 : D.S.length ≤ 1099511627776) :
    Calls Tryd.prog 99 #[v] w fun e w' => e = .returned (.bool true) ∧ Below w.heap.size w w' := by
  have hD0 := hD
  obtain ⟨i0, hi, hz0, hz1, hz2⟩ := info_parts infoInt
  obtain ⟨vS, vC, vK, vF, rfl, ⟨aS, cS, rfl, hSc, hSm, _⟩, ⟨aC, cC, rfl, hCc, hCm, f, hC, hCs⟩, _, _⟩ := hD
  have HCS := Lib.hid hm.cs
  have hck := hm.ck
  have h16 := hm.k16
  clear hm
  obtain ⟨W0, hW⟩ : ∃ W0, W0 = w.alloc (.cells #[.slice aS D.S.length cS, .slice aC D.C.length cC, vK, .int .i64 D.n, vF] 126) := ⟨_, rfl⟩
  have hb : Below w.heap.size w W0 := hW ▸ below_alloc w _
  have hlt : w.heap.size < W0.heap.size := by rw [hW]; simp
  have p0 : Box5 W0 w.heap.size (.slice aS D.S.length cS) (.slice aC D.C.length cC) vK D.n vF := hW ▸ Box5.new w _ _ _ _ _ _
  have HD := Lib.hid (hD0.up hb)
  have HC := lies_up hC hb
  have HS : Hid (∀ i, i < D.C.length → SlC W0 W0.heap.size (f i) (D.C.getD i [])) := fun i hi => (hCs i hi).up hb
  obtain ⟨nC, hCl⟩ : ∃ n, D.C.length = n := ⟨_, rfl⟩
  obtain ⟨nS, hSl⟩ : ∃ n, D.S.length = n := ⟨_, rfl⟩
  have HCM : Hid (∀ k, k < nC → CacheOk (D.C.getD k []) nS) := fun k hk => hSl ▸ HCS.out _ (getD_mem (by omega))
  rw [hCl] at hCc p0 hW hck ⊢
  have hC16 : nC ≤ 16 := by omega
  clear hck h16
  rw [hSl] at hSc p0 hW hS30 ⊢
  have c0 := p0.c0
  unfold maxLen at hSm hCm
  clear HCS
  go_enter Tryd.func99, Tryd.ntmps99
  have hG0 : w.heap.size + 1 = W0.heap.size := by rw [hW]; simp
  go_wp2_with (at_make; refine wpList_make_room _ rfl _ _ 39 rfl (w.heap.size + 1) 3 i0 (.int .i64 0) Tryd.underlying39 hi hz0 hz1 rfl _ _ _ _ nS nS rfl rfl rfl rfl (Nat.le_refl _) ?c3 ?c4 ?c5 ?_)
  case c3 => rw [hz2]; omega
  case c4 => unfold maxLen; omega
  case c5 => simp
  intro w1 hown1 hg1 hs1 _
  rw [← hW] at hg1 hown1
  have hb1 : Below W0.heap.size W0 w1 := (Below.refl _ _).grown hg1 (Nat.le_refl _) (by intro j hj; cases hj)
  rw [hG0] at hown1
  rw [← hW]
  clear hs1 hG0
  obtain ⟨G, hG⟩ : ∃ G, W0.heap.size = G := ⟨_, rfl⟩
  rw [hG] at hown1 hb1 hlt HD HC HS ⊢
  have q := p0.below hb1 hlt
  have q1 := q.c1
  clear q hg1 hW c0
  go_wp2_with fail
  clear q1
  go_loopw [4, 5, 7, 17, 22, 23, 24] (fun _ _ _ i _ _ _ wr => ∃ k : Nat, ∃ L : List Int, k ≤ nC ∧ i = .int .i64 (k : Int) ∧ Below G W0 wr ∧ wr.ownsRow G 3 1 (.slice (some ⟨G, 0, none⟩) nS nS) nS (L.map (Value.int .i64)) ∧ Hid (∀ q : Nat, ∀ h : q < L.length, L[q] ≤ (k : Int))) (fun _ _ _ i _ _ _ _ => nC - (intOf i).toNat)
  case atStart => exact ⟨0, List.replicate nS 0, Nat.zero_le _, rfl, hb1, by rw [List.map_replicate]; exact hown1, fun q h => by simp⟩
  case round =>
    obtain ⟨k, L, hk, rfl, hbr, hown, HL⟩ := hrel
    by_cases hlk : k < nC
    · obtain ⟨ad, a, m, c, e1, hab, hcc, e2, hm, hmc, hcm, hla⟩ := slC_at ((HC.keep fun _ hp => hbr.cell hp)) (fun i hi => (HS.out i hi).keep fun _ hp => hbr.cell hp) rfl (k := k) (by omega)
      subst e1
      have HOK := Lib.hid (HCM.out k hlk)
      have HLM := Lib.hid hm
      generalize D.C.getD k [] = l at *
      clear e2 hm
      unfold maxLen at hcm
      go_wp2_with fail
      go_loopw [7, 24] (fun _ j wq => ∃ n : Nat, ∃ M : List Int, n ≤ m ∧ j = .int .i64 (n : Int) ∧ Below G W0 wq ∧ wq.ownsRow G 3 1 (.slice (some ⟨G, 0, none⟩) nS nS) nS (M.map (Value.int .i64)) ∧ Hid (LastOk M k n l)) (fun _ j _ => m - (intOf j).toNat)
      case atStart => exact ⟨0, L, Nat.zero_le _, rfl, hbr, hown, last_start _ HL.out⟩
      case round =>
        obtain ⟨n, M, hn, rfl, hbq, hownq, HM⟩ := hrel
        by_cases hln : n < m
        · have hnl : n < l.length := by rw [HLM.out]; exact hln
          have hcn := HOK.out.a _ (List.getElem_mem hnl)
          have hnd := HOK.out.d
          obtain ⟨da, ea, hda, hd1, hd2⟩ := cel_at ((hla.keep fun p hp => (World.cell?_of_block (hbq.block _ hp)).trans (World.cell?_of_block (hbr.block _ hp)).symm)) HLM.out hln
          subst ea
          obtain ⟨x, hx⟩ : ∃ x, l[n]'hnl = x := ⟨_, rfl⟩
          rw [hx] at hcn hd1 hd2
          obtain ⟨xs, xb⟩ := x
          obtain ⟨hx0, hx1, hx2⟩ := hcn
          simp only at hx0 hx1 hx2 hd1 hd2
          have hd3 := hd2
          rw [← add_twice, add_one] at hd3
          obtain ⟨s, rfl⟩ := Int.eq_ofNat_of_zero_le hx0
          have hML : M.length = nS := by have := hownq.1; simpa using this
          have HF := Lib.hid (last_fresh HM.out hnd hnl (s := s) (by rw [hx]) (by omega))
          have HM2 := Lib.hid (last_set HM.out hnl (s := s) (by rw [hx]))
          have hsM : s < M.length := by omega
          have HLong : tooL xb = false := decide_eq_false (by omega)
          obtain ⟨y, hy⟩ : ∃ y, M[s]'hsM = y := ⟨_, rfl⟩
          have hys : (y == (k : Int) + 1) = false := by rw [← hy]; exact HF.out
          obtain ⟨W1, hW1⟩ : ∃ W1, W1 = wr.alloc (.cells #[.int .i64 (s : Int), .string xb] 118) := ⟨_, rfl⟩
          have hbW : Below wr.heap.size wr W1 := hW1 ▸ below_alloc wr _
          have pc : Blk W1 wr.heap.size #[.int .i64 (s : Int), .string xb] 118 := hW1 ▸ Blk.new wr _ _
          have hGq : G < wr.heap.size := (hownq.lt G rfl).2
          have hb0W : Below G W0 W1 := hbq.trans (hbW.mono (by omega))
          have hcall := hasD_any _ D (s : Int) _ W1 ((HD.out.keep fun p hp => hb0W.cell hp))
          have hhs : hasB nS (s : Int) = true := decide_eq_true ⟨by omega, by omega⟩
          rw [hSl, hCl, hhs] at hcall
          have q := p0.below hb0W hlt
          have q0 := q.c0
          have q1 := q.c1
          have q2 := q.c2
          have q3 := q.c3
          have q4 := q.c4
          have htl := tooLong_any xb
          rw [HLong] at htl
          have hownW := own_up hownq hbW
          rw [hW1] at q0 q1 q2 q3 q4
          clear q HF HM hownq hx hnd HD HC HS HOK HCM hla
          go_wp2_with fail
          rw [← hW1]
          refine hcall.mono ?_
          rintro e w2 ⟨rfl, hb2⟩
          have pc2 := pc.below hb2 (by rw [hW1]; simp)
          have e0 : w2.cell? ⟨wr.heap.size, 0, none⟩ = some (.int .i64 (s : Int)) := pc2.cell 0 _ rfl
          have e1 : w2.cell? ⟨wr.heap.size, 1, none⟩ = some (.string xb) := pc2.cell 1 _ rfl
          have own2 := own_up hownW hb2
          have e2 : w2.cell? ⟨G, s, none⟩ = some (.int .i64 y) := by
            rw [own2.cellAt s (by omega), List.getElem?_map, List.getElem?_eq_getElem hsM, hy]; rfl
          have e3 : w2.frozen? ⟨G, s, none⟩ = false := own2.frozenAt s
          have own3 := (own2.stored s (.int .i64 ((k : Int) + 1))).1
          have hb3 : Below G W0 (w2.setCell ⟨G, s, none⟩ (.int .i64 ((k : Int) + 1))) := (hb0W.trans (hb2.mono (by rw [hW1]; simp; omega))).setCell (by simp) _
          clear hcall pc pc2 hownW own2 hb2 hb0W hW1 q0 q1 q2 q3 q4 hbW
          go_wp2_with fail
          refine (htl _).mono ?_
          rintro e w3 ⟨rfl, rfl⟩
          go_wp2_with fail
          go_roundw
          case rel => exact ⟨n + 1, M.set s ((k : Int) + 1), by omega, by go_num, hb3, by rw [List.map_set]; exact own3, HM2.out⟩
          case measure => simp [intOf]; omega
        · have hnm : n = m := by omega
          go_wp2_with fail
          go_roundw
          case rel => exact ⟨k + 1, M, by omega, by go_num, hbq, hownq, fun q h => by have := (HM.out q h).2; omega⟩
          case measure => simp [intOf]; omega
    · have hkn : k = nC := by omega
      go_wp2_with fail
      go_ret
      exact ⟨rfl, hb.trans (hbr.mono (by omega))⟩

set_option maxRecDepth 100000 in
set_option maxHeartbeats 1000000 in
theorem mayDv_any (v : Value) (D : Dev) (b : Bool) (w : World) (hD : DevAt w w.heap.size v D) (hS30 : D.S.length ≤ 1099511627776) (hb : sMayB D.S = b) (hm : b = true → MayD D) :
    Calls Tryd.prog 90 #[v] w fun e w' => e = .returned (.bool b) ∧ Below w.heap.size w w' := by
  obtain ⟨vS, vC, vK, vF, e1, _⟩ := id hD
  obtain ⟨W0, hW⟩ : ∃ W0, W0 = w.alloc (.cells #[vS, vC, vK, .int .i64 D.n, vF] 126) := ⟨_, rfl⟩
  have hb0 : Below w.heap.size w W0 := hW ▸ below_alloc w _
  have hlt : w.heap.size < W0.heap.size := by rw [hW]; simp
  have p0 : Box5 W0 w.heap.size vS vC vK D.n vF := hW ▸ Box5.new w _ _ _ _ _ _
  have HD := Lib.hid (hD.up hb0)
  have HM := Lib.hid hm
  clear hD hm
  subst e1
  have hc1 := sectorsMay_any _ D W0 HD.out
  rw [hb] at hc1
  clear hb
  go_enter Tryd.func90, Tryd.ntmps90
  go_wp2_with fail
  rw [← hW]
  clear hW
  refine hc1.mono ?_
  rintro e w1 ⟨rfl, hb1⟩
  clear hc1
  cases b with
  | false =>
    go_wp2_with fail
    go_ret
    exact ⟨rfl, below_then hb0 hb1⟩
  | true =>
    have hm := Lib.hid (HM.out rfl)
    clear HM
    have q := p0.below hb1 hlt
    have q0 := q.c0
    have q1 := q.c1
    have q2 := q.c2
    have q3 := q.c3
    have q4 := q.c4
    have HD1 := Lib.hid (HD.out.up hb1)
    have hlt1 := Nat.lt_of_lt_of_le hlt hb1.size
    have hc2 := nodesMay_yes _ D _ w1 HD1.out hm.out
    clear HD p0
    go_wp2_with fail
    refine hc2.mono ?_
    rintro e w2 ⟨rfl, hb2⟩
    clear hc2 q0 q1 q2 q3 q4
    have q' := q.below hb2 hlt1
    clear q
    have q0 := q'.c0
    have q1 := q'.c1
    have q2 := q'.c2
    have q3 := q'.c3
    have q4 := q'.c4
    have HD2 := Lib.hid (HD1.out.up hb2)
    have hlt2 := Nat.lt_of_lt_of_le hlt1 hb2.size
    have hc3 := cachesMay_yes _ D w2 HD2.out hm.out hS30
    clear HD1
    go_wp2_with fail
    refine hc3.mono ?_
    rintro e w3 ⟨rfl, hb3⟩
    clear hc3 q0 q1 q2 q3 q4
    have q := q'.below hb3 hlt2
    clear q'
    have q0 := q.c0
    have q1 := q.c1
    have q2 := q.c2
    have q3 := q.c3
    have q4 := q.c4
    have HD3 := Lib.hid (HD2.out.up hb3)
    have hlt3 := Nat.lt_of_lt_of_le hlt2 hb3.size
    have hc4 := keysMay_yes _ D w3 HD3.out hm.out
    clear HD2
    go_wp2_with fail
    refine hc4.mono ?_
    rintro e w4 ⟨rfl, hb4⟩
    clear hc4 q0 q1 q2 q3 q4
    have q' := q.below hb4 hlt3
    clear q
    have q0 := q'.c0
    have q1 := q'.c1
    have q2 := q'.c2
    have q3 := q'.c3
    have q4 := q'.c4
    have HD4 := Lib.hid (HD3.out.up hb4)
    have hc5 := fencedMay_yes _ D w4 HD4.out hm.out
    clear HD3
    go_wp2_with fail
    refine hc5.mono ?_
    rintro e w5 ⟨rfl, hb5⟩
    go_wp2_with fail
    go_ret
    exact ⟨rfl, below_then (below_then (below_then (below_then (below_then hb0 hb1) hb2) hb3) hb4) hb5⟩

end Go.Proofs.YtjdacpnfgpdjhaaDoor

/-
  The document's device: whether a cache may be; whether a device may be: by contract.
-/
namespace Go.Proofs.YtjdacpnfgpdjhaaDoor
open Go.RowKit
set_option linter.unusedVariables false
set_option linter.unusedSimpArgs false

theorem cache_apart {l : List Cel} {ns : Nat} (h : CacheOk l ns) {j k : Nat} (hj : j < k) (hk : k < l.length) : ((l[j]'(by omega)).1 == (l[k]).1) = false := by
  apply beq_eq_false_iff_ne.2
  intro e
  have h1 : (l.map Prod.fst)[j]'(by simp; omega) = (l.map Prod.fst)[k]'(by simpa using hk) := by simp [e]
  have := (List.getElem_inj h.d).1 h1
  omega

set_option maxRecDepth 100000 in
set_option maxHeartbeats 1000000 in
theorem refCached_yes (A : Option Addr) (n c B : Nat) (l : List Cel) (ns : Nat) (w : World) (hA : Lies w B A (n * 2) (celV l)) (hl : l.length = n) (hn : n ≤ maxLen) (hB : B ≤ w.heap.size) (hok : CacheOk l ns) :
    Calls Tryd.prog 53 #[.slice A n c, .int .i64 (ns : Int)] w fun e w' => e = .returned (.bool true) ∧ Below w.heap.size w w' := by
  unfold maxLen at hn
  have HOK := Lib.hid hok
  have HL := Lib.hid hl
  clear hok hl
  go_enter Tryd.func53, Tryd.ntmps53
  go_wp2_with fail
  go_loopw [5, 6] (fun i _ wr => ∃ k : Nat, k ≤ n ∧ i = .int .i64 (k : Int) ∧ Below w.heap.size w wr) (fun i _ _ => n - (intOf i).toNat)
  case atStart => exact ⟨0, Nat.zero_le _, rfl, Below.refl _ _⟩
  case round =>
    obtain ⟨k, hk, rfl, hb⟩ := hrel
    by_cases hlt : k < n
    · have hkl : k < l.length := by rw [HL.out]; exact hlt
      obtain ⟨ad, e1, hab, h1, h2⟩ := cel_at (hA.keep fun p hp => hb.cell (by omega)) HL.out hlt
      subst e1
      have h3 := h2
      rw [← add_twice, add_one] at h3
      have hc := HOK.out.a _ (List.getElem_mem hkl)
      have HAP : Hid (∀ j, ∀ hj : j < k, ((l[j]'(by omega)).1 == (l[k]).1) = false) := fun j hj => cache_apart HOK.out hj hkl
      obtain ⟨x, hx⟩ : ∃ x, l[k]'hkl = x := ⟨_, rfl⟩
      rw [hx] at h1 h2 h3 hc
      have HX := Lib.hid hx
      clear hx
      obtain ⟨c0, c1, c2⟩ := hc
      have d0 : decide (x.1 < 0) = false := decide_eq_false (by omega)
      have d1 : decide ((ns : Int) ≤ x.1) = false := decide_eq_false (by omega)
      have d2 : decide ((512 : Int) < (x.2.size : Int)) = false := decide_eq_false (by omega)
      clear c0 c1 c2
      go_wp2_with fail
      go_loopw [6] (fun i wq => ∃ j : Nat, j ≤ k ∧ i = .int .i64 (j : Int) ∧ Below w.heap.size w wq) (fun i _ => k - (intOf i).toNat)
      case atStart => exact ⟨0, Nat.zero_le _, rfl, hb⟩
      case round =>
        obtain ⟨j, hj, rfl, hb2⟩ := hrel
        by_cases hjk : j < k
        · obtain ⟨ad', e1, _, g1, _⟩ := cel_at (hA.keep fun p hp => hb2.cell (by omega)) HL.out (show j < n by omega)
          injection e1 with e1
          subst e1
          obtain ⟨ad', e2, _, g2, _⟩ := cel_at (hA.keep fun p hp => hb2.cell (by omega)) HL.out hlt
          injection e2 with e2
          subst e2
          rw [HX.out] at g2
          have ha := HAP.out j hjk
          rw [HX.out] at ha
          obtain ⟨y, hy⟩ : ∃ y, l[j]'(by omega) = y := ⟨_, rfl⟩
          rw [hy] at g1 ha
          clear hy h1 h2 h3 HAP
          have j0 : (0 : Int) ≤ (j : Int) := by omega
          have j1 : (j : Int) < (n : Int) := by omega
          have k0 : (0 : Int) ≤ (k : Int) := by omega
          have k1 : (k : Int) < (n : Int) := by omega
          clear hA
          go_wp2_with fail
          go_region_held3 (fun w' => w'.cell? (ad.add (j * 2)) = some (.int .i64 y.1) ∧ w'.cell? (ad.add (k * 2)) = some (.int .i64 x.1)) (go_keep) (fail)
          go_wp2_with fail
          go_roundw
          case rel => exact ⟨j + 1, by omega, by go_num, hb2.drew⟩
          case measure => simp [intOf]; omega
        · have hjn : j = k := by omega
          go_wp2_with fail
          go_roundw
          case rel => exact ⟨k + 1, by omega, by go_num, hb2⟩
          case measure => simp [intOf]; omega
    · have hkn : k = n := by omega
      go_wp2_with fail
      go_ret
      exact ⟨rfl, hb⟩

end Go.Proofs.YtjdacpnfgpdjhaaDoor

/-
  The document's device: whether a device may be: by contract.
-/
namespace Go.Proofs.YtjdacpnfgpdjhaaDoor
open Go.RowKit
set_option linter.unusedVariables false
set_option linter.unusedSimpArgs false

theorem slC_at2 {w : World} {B n : Nat} {A : Option Addr} {f : Nat → Value} {C : List (List Cel)} (h : Lies w B A n ((List.range n).map f)) (hs : ∀ i, i < n → SlC w B (f i) (C.getD i [])) (hn : C.length = n) {k : Nat} (hk : k < n) :
    ∃ ad : Addr, ∃ a m c, A = some ad ∧ ad.block < B ∧ w.cell? (ad.add k) = some (.slice a m c) ∧ f k = .slice a m c ∧ (C.getD k []).length = m ∧ m ≤ c ∧ c ≤ maxLen ∧ Lies w B a (m * 2) (celV (C.getD k [])) := by
  subst hn
  exact slC_at h hs rfl hk

set_option maxRecDepth 100000 in
set_option maxHeartbeats 4000000 in
theorem refCheck_yes (v : Value) (D : Dev) (w : World) (hD : DevAt w w.heap.size v D) (hm : MayD D) (hS30 : D.S.length ≤ 1099511627776) :
    Calls Tryd.prog 34 #[v] w fun e w' => e = .returned (.int .i64 0) ∧ Below w.heap.size w w' := by
  have hD0 := hD
  obtain ⟨vS, vC, vK, vF, rfl, ⟨aS, cS, rfl, hSc, hSm, hS⟩, ⟨aC, cC, rfl, hCc, hCm, f, hC, hCs⟩, ⟨aK, cK, rfl, hKc, hKm, hK⟩, ⟨aF, cF, rfl, hFc, hFm, hF⟩⟩ := hD
  have n2 := hm.n2
  have HSS := Lib.hid hm.ss
  have HCS := Lib.hid hm.cs
  have HKS := Lib.hid hm.ks
  have HFS := Lib.hid hm.fs
  have HFR := Lib.hid hm.fr
  have HG : Hid (∀ x : Int, Given D.K.length D.n x → decide (Given D.K.length D.n x) = true ∧ x.tmod 16 = x % 16 ∧ -9223372036854775808 ≤ x ∧ x ≤ 9223372036854775807) := fun x h => ⟨decide_eq_true h, (div16 h.1).2, (key_bd h n2).1, (key_bd h n2).2⟩
  obtain ⟨W0, hW⟩ : ∃ W0, W0 = w.alloc (.cells #[.slice aS D.S.length cS, .slice aC D.C.length cC, .slice aK D.K.length cK, .int .i64 D.n, .slice aF D.F.length cF] 46) := ⟨_, rfl⟩
  have hb0 : Below w.heap.size w W0 := hW ▸ below_alloc w _
  have hlt : w.heap.size < W0.heap.size := by rw [hW]; simp
  have p0 : Box5 W0 w.heap.size (.slice aS D.S.length cS) (.slice aC D.C.length cC) (.slice aK D.K.length cK) D.n (.slice aF D.F.length cF) := hW ▸ Box5.new w _ _ _ _ _ _
  have HD := Lib.hid (hD0.up hb0)
  have HLS := Lib.hid (lies_up hS hb0)
  have HLC := Lib.hid (lies_up hC hb0)
  have HLK := Lib.hid (lies_up hK hb0)
  have HLF := Lib.hid (lies_up hF hb0)
  have HCC : Hid (∀ i, i < D.C.length → SlC W0 W0.heap.size (f i) (D.C.getD i [])) := fun i hi => (hCs i hi).up hb0
  have hck := hm.ck
  obtain ⟨nS, hSl⟩ : ∃ n, D.S.length = n := ⟨_, rfl⟩
  obtain ⟨nK, hKl⟩ : ∃ n, D.K.length = n := ⟨_, rfl⟩
  obtain ⟨nF, hFl⟩ : ∃ n, D.F.length = n := ⟨_, rfl⟩
  obtain ⟨dn, hdn⟩ : ∃ n, D.n = n := ⟨_, rfl⟩
  have hCl : D.C.length = nK := hck.trans hKl
  have b1 : 1 ≤ nS := hSl ▸ hm.s1
  have b2 : 1 ≤ nK := hKl ▸ hm.k1
  have b3 : nK ≤ 16 := hKl ▸ hm.k16
  have b4 : 1 ≤ dn := hdn ▸ hm.n1
  have b5 : dn ≤ 68719476736 := hdn ▸ hm.n2
  have HCM : Hid (∀ k, k < nK → CacheOk (D.C.getD k []) nS) := fun k hk => hSl ▸ HCS.out _ (getD_mem (by omega))
  rw [hSl, hCl, hKl, hFl, hdn] at p0 hW
  rw [hSl] at HLS hSc hS30 ⊢
  rw [hCl] at HLC hCc HCC ⊢
  rw [hKl] at HLK hKc HG HKS HFS ⊢
  rw [hFl] at HLF hFc ⊢
  rw [hdn] at HG HKS HFS ⊢
  have e1 : decide ((nS : Int) < 1) = false := decide_eq_false (by omega)
  have e2 : decide ((nK : Int) < 1) = false := decide_eq_false (by omega)
  have e3 : decide ((16 : Int) < (nK : Int)) = false := decide_eq_false (by omega)
  have e4 : decide (dn < 1) = false := decide_eq_false (by omega)
  have e5 : decide ((68719476736 : Int) < dn) = false := decide_eq_false (by omega)
  have HGV : Hid (∀ w1, Below W0.heap.size W0 w1 → ∀ x : Int, -9223372036854775808 ≤ x → x ≤ 9223372036854775807 → Calls Tryd.prog 54 #[.agg #[.slice aS nS cS, .slice aC nK cC, .slice aK nK cK, .int .i64 dn, .slice aF nF cF], .int .i64 x] w1 fun e w' => e = .returned (.bool (decide (Given nK dn x))) ∧ Below W0.heap.size W0 w') := by
    intro w1 hb1 x x0 x1
    have h := refGiven_any _ D x W0.heap.size w1 (HD.out.keep fun _ hp => hb1.cell hp) x0 x1
    rw [hSl, hCl, hKl, hdn, hFl] at h
    refine h.mono ?_
    rintro e w' ⟨rfl, hb2⟩
    exact ⟨rfl, hb1.trans (hb2.mono hb1.size)⟩
  clear HD
  have q0 := p0.c0
  have q1 := p0.c1
  have q2 := p0.c2
  have q3 := p0.c3
  have q4 := p0.c4
  rw [hW] at q0 q1 q2 q3 q4
  have HSl := Lib.hid hSl
  have HKl := Lib.hid hKl
  have HFl := Lib.hid hFl
  have HCl := Lib.hid hCl
  have Hdn := Lib.hid hdn
  unfold maxLen at hSm hCm hKm hFm
  clear hm hD0 hS hC hK hF hCs hck HCS n2 b4 b5 hSl hKl hFl hCl hdn
  go_enter Tryd.func34, Tryd.ntmps34
  go_wp2_with fail
  rw [← hW]
  clear hW q0 q1 q2 q3 q4 e1 e2 e3 e4 e5
  go_loopw [3] (fun i wr => ∃ k : Nat, k ≤ nS ∧ i = .int .i64 (k : Int) ∧ Below W0.heap.size W0 wr) (fun i _ => nS - (intOf i).toNat)
  case atStart => exact ⟨0, Nat.zero_le _, rfl, Below.refl _ _⟩
  case round =>
    obtain ⟨k, hk, rfl, hb⟩ := hrel
    have q0 := (p0.below hb hlt).c0
    by_cases hlk : k < nS
    · obtain ⟨ad, ea, hc⟩ := str_at (HLS.out.keep fun _ hp => hb.cell hp) hlk (by rw [HSl.out]; exact hlk)
      subst ea
      have hsz := HSS.out _ (List.getElem_mem (show k < D.S.length by rw [HSl.out]; exact hlk))
      obtain ⟨s, hs⟩ : ∃ s, D.S[k]'(by rw [HSl.out]; exact hlk) = s := ⟨_, rfl⟩
      rw [hs] at hc hsz
      clear hs
      have hd : decide ((512 : Int) < (s.size : Int)) = false := decide_eq_false (by omega)
      clear hsz
      go_wp2_with fail
      go_roundw
      case rel => exact ⟨k + 1, by omega, by go_num, hb⟩
      case measure => simp [intOf]; omega
    · go_wp2_with fail
      clear q0
      go_loopw [4] (fun i wr => ∃ k : Nat, k ≤ nK ∧ i = .int .i64 (k : Int) ∧ Below W0.heap.size W0 wr) (fun i _ => nK - (intOf i).toNat)
      case atStart => exact ⟨0, Nat.zero_le _, rfl, hb⟩
      case round =>
        obtain ⟨k, hk, rfl, hb⟩ := hrel
        have q := p0.below hb hlt
        have q0 := q.c0
        have q1 := q.c1
        have q2 := q.c2
        have q3 := q.c3
        have q4 := q.c4
        by_cases hlk : k < nK
        · have hin : k < D.K.length := by rw [HKl.out]; exact hlk
          have hinC : k < D.C.length := by rw [HCl.out]; exact hlk
          obtain ⟨aC', a, m, c, ea, hab, hcc, e2, hml, hmc, hcm, hla⟩ := slC_at2 (HLC.out.keep fun _ hp => hb.cell hp) (fun i hi => (HCC.out i hi).keep fun _ hp => hb.cell hp) HCl.out hlk
          subst ea
          obtain ⟨aK', ea, _, hck⟩ := int_at (HLK.out.keep fun _ hp => hb.cell hp) hlk hin
          subst ea
          obtain ⟨x, hx⟩ : ∃ x, D.K[k]'hin = x := ⟨_, rfl⟩
          have HX := HKS.out k x (by rw [List.getElem?_eq_getElem hin, hx])
          rw [hx] at hck
          have hok := HCM.out k hlk
          have k0 : (0 : Int) ≤ (k : Int) := by omega
          have k1 : (k : Int) < (nK : Int) := by omega
          have hlb := Nat.lt_of_lt_of_le hlt hb.size
          have q := p0.below hb hlt
          have hkp : ∀ w1 : World, Below W0.heap.size W0 w1 → w1.cell? (aC'.add k) = some (.slice a m c) ∧ w1.cell? (aK'.add k) = some (.int .i64 x) := by
            intro w1 hb1
            obtain ⟨aC2, a2, m2, c2, ea, _, hcc2, e22, _, _, _, _⟩ := slC_at2 (HLC.out.keep fun _ hp => hb1.cell hp) (fun i hi => (HCC.out i hi).keep fun _ hp => hb1.cell hp) HCl.out hlk
            injection ea with ea
            subst ea
            obtain ⟨aK2, ea, _, hck2⟩ := int_at (HLK.out.keep fun _ hp => hb1.cell hp) hlk hin
            injection ea with ea
            subst ea
            rw [hx] at hck2
            rw [e2] at e22
            injection e22 with z1 z2 z3
            subst z1 z2 z3
            exact ⟨hcc2, hck2⟩
          have HKP := Lib.hid hkp
          have hb' : Below W0.heap.size W0 (World.drew _) := hb.drew
          have hcall := (refCached_yes a m c _ (D.C.getD k []) nS _ (hla.keep (w' := World.drew _) fun _ _ => rfl) hml (Nat.le_trans hmc hcm) hb.size hok).mono (R' := fun e w' => e = .returned (.bool true) ∧ w'.cell? ⟨w.heap.size, 0, none⟩ = some (.slice aS nS cS) ∧ w'.cell? ⟨w.heap.size, 1, none⟩ = some (.slice (some aC') nK cC) ∧ w'.cell? ⟨w.heap.size, 2, none⟩ = some (.slice (some aK') nK cK) ∧ w'.cell? ⟨w.heap.size, 3, none⟩ = some (.int .i64 dn) ∧ w'.cell? ⟨w.heap.size, 4, none⟩ = some (.slice aF nF cF) ∧ w'.cell? (aC'.add k) = some (.slice a m c) ∧ w'.cell? (aK'.add k) = some (.int .i64 x) ∧ Below W0.heap.size W0 w') (by
            rintro e w' ⟨rfl, hb2⟩
            have hb3 : Below W0.heap.size W0 w' := hb'.trans (hb2.mono hb.size)
            have r := p0.below hb3 hlt
            obtain ⟨z1, z2⟩ := HKP.out _ hb3
            exact ⟨rfl, r.c0, r.c1, r.c2, r.c3, r.c4, z1, z2, hb3⟩)
          by_cases h0 : x = 0
          · subst h0
            have hne : ((0 : Int) != 0) = false := rfl
            clear hkp HX HKP hla e2 hml q hb hb' hx hok
            go_wp2_with fail
            refine wp_region_held_drew (S := (fun w' => w'.cell? ⟨w.heap.size, 0, none⟩ = some (.slice aS nS cS) ∧ w'.cell? ⟨w.heap.size, 1, none⟩ = some (.slice (some aC') nK cC) ∧ w'.cell? ⟨w.heap.size, 2, none⟩ = some (.slice (some aK') nK cK) ∧ w'.cell? ⟨w.heap.size, 3, none⟩ = some (.int .i64 dn) ∧ w'.cell? ⟨w.heap.size, 4, none⟩ = some (.slice aF nF cF) ∧ w'.cell? (aC'.add k) = some (.slice a m c) ∧ w'.cell? (aK'.add k) = some (.int .i64 0))) (by kernel_rfl) ?_ (fun hHeld => ?_)
            focus (exact ⟨q0, q1, q2, q3, q4, hcc, hck⟩)
            refine wpAnyH_take (i := 0) (oi := ⟨some 62, _, _, _, _, _⟩) (v := ?_) rfl (by kernel_rfl) (by kernel_rfl) (by kernel_rfl) (fun _ _ _ h => h) (Or.inl ⟨by rfl, ?_⟩) (by assumption) ?_
            rotate_left
            focus (intro wq hSq; (try dsimp only at hSq); go_simp; try with_reducible rfl)
            try simp only [Act.put, List.setIfInBounds_toArray, List.set_cons_zero, List.set_cons_succ]
            refine wpAnyH_take (i := 1) (oi := ⟨some 63, _, _, _, _, _⟩) (v := ?_) rfl (by kernel_rfl) (by kernel_rfl) (by kernel_rfl) (fun _ _ _ h => h) (Or.inl ⟨by rfl, ?_⟩) (by assumption) ?_
            rotate_left
            focus (intro wq hSq; (try dsimp only at hSq); go_simp; try with_reducible rfl)
            try simp only [Act.put, List.setIfInBounds_toArray, List.set_cons_zero, List.set_cons_succ]
            refine wpAnyH_take (i := 2) (oi := ⟨some 64, _, _, _, _, _⟩) (v := ?_) rfl (by kernel_rfl) (by kernel_rfl) (by kernel_rfl) (fun _ _ _ h => h) (Or.inl ⟨by rfl, ?_⟩) (by assumption) ?_
            rotate_left
            focus (intro wq hSq; (try dsimp only at hSq); go_simp; try with_reducible rfl)
            try simp only [Act.put, List.setIfInBounds_toArray, List.set_cons_zero, List.set_cons_succ]
            refine wpAnyH_take (i := 3) (oi := ⟨some 65, _, _, _, _, _⟩) (v := ?_) rfl (by kernel_rfl) (by kernel_rfl) (by kernel_rfl) (fun _ _ _ h => h) (Or.inl ⟨by rfl, ?_⟩) (by assumption) ?_
            rotate_left
            focus (intro wq hSq; (try dsimp only at hSq); go_simp; try with_reducible rfl)
            try simp only [Act.put, List.setIfInBounds_toArray, List.set_cons_zero, List.set_cons_succ]
            refine wpAnyH_take (i := 4) (oi := ⟨some 66, _, _, _, _, _⟩) (v := ?_) rfl (by kernel_rfl) (by kernel_rfl) (by kernel_rfl) (fun _ _ _ h => h) (Or.inl ⟨by rfl, ?_⟩) (by assumption) ?_
            rotate_left
            focus (intro wq hSq; (try dsimp only at hSq); go_simp; try with_reducible rfl)
            try simp only [Act.put, List.setIfInBounds_toArray, List.set_cons_zero, List.set_cons_succ]
            refine wpAnyH_take (i := 5) (oi := ⟨some 67, _, _, _, _, _⟩) (v := ?_) rfl (by kernel_rfl) (by kernel_rfl) (by kernel_rfl) (fun _ _ _ h => h) (Or.inl ⟨by rfl, ?_⟩) (by assumption) ?_
            rotate_left
            focus (intro wq hSq; (try dsimp only at hSq); go_simp; try with_reducible rfl)
            try simp only [Act.put, List.setIfInBounds_toArray, List.set_cons_zero, List.set_cons_succ]
            refine wpAnyH_take (i := 6) (oi := ⟨some 68, _, _, _, _, _⟩) (v := ?_) rfl (by kernel_rfl) (by kernel_rfl) (by kernel_rfl) (fun _ _ _ h => h) (Or.inl ⟨by rfl, ?_⟩) (by assumption) ?_
            rotate_left
            focus (intro wq hSq; (try dsimp only at hSq); go_simp; try with_reducible rfl)
            try simp only [Act.put, List.setIfInBounds_toArray, List.set_cons_zero, List.set_cons_succ]
            refine wpAnyH_take (i := 7) (oi := ⟨some 69, _, _, _, _, _⟩) (v := ?_) rfl (by kernel_rfl) (by kernel_rfl) (by kernel_rfl) (fun _ _ _ h => h) (Or.inl ⟨by rfl, ?_⟩) (by assumption) ?_
            rotate_left
            focus (intro wq hSq; (try dsimp only at hSq); go_simp; try with_reducible rfl)
            try simp only [Act.put, List.setIfInBounds_toArray, List.set_cons_zero, List.set_cons_succ]
            refine wpAnyH_ready (rs := [8]) (by kernel_rfl) (by simp) ?_
            refine AllReadyH.cons (o := ⟨some 70, _, _, _, _, _⟩) rfl (fun K hK => ?_) AllReadyH.nil
            go_simp
            refine hcall.mono ?_
            rintro e w1 ⟨rfl, k0, k1, k2, k3, k4, k5, k6, hb1⟩
            refine hK.out _ _ ?_ (fun hHeld => ?_)
            focus (exact ⟨k0, k1, k2, k3, k4, k5, k6⟩)
            clear hK K
            try simp only [Act.put, List.setIfInBounds_toArray, List.set_cons_zero, List.set_cons_succ]
            refine wpAnyH_take (i := 9) (oi := ⟨some 71, _, _, _, _, _⟩) (v := ?_) rfl (by kernel_rfl) (by kernel_rfl) (by kernel_rfl) (fun _ _ _ h => h) (Or.inl ⟨by rfl, ?_⟩) (by assumption) ?_
            rotate_left
            focus (intro wq hSq; (try dsimp only at hSq); go_simp; try with_reducible rfl)
            try simp only [Act.put, List.setIfInBounds_toArray, List.set_cons_zero, List.set_cons_succ]
            refine wpAnyH_take (i := 10) (oi := ⟨some 72, _, _, _, _, _⟩) (v := ?_) rfl (by kernel_rfl) (by kernel_rfl) (by kernel_rfl) (fun _ _ _ h => h) (Or.inl ⟨by rfl, ?_⟩) (by assumption) ?_
            rotate_left
            focus (intro wq hSq; (try dsimp only at hSq); go_simp; try with_reducible rfl)
            try simp only [Act.put, List.setIfInBounds_toArray, List.set_cons_zero, List.set_cons_succ]
            refine wpAnyH_take (i := 11) (oi := ⟨some 73, _, _, _, _, _⟩) (v := ?_) rfl (by kernel_rfl) (by kernel_rfl) (by kernel_rfl) (fun _ _ _ h => h) (Or.inl ⟨by rfl, ?_⟩) (by assumption) ?_
            rotate_left
            focus (intro wq hSq; (try dsimp only at hSq); go_simp; try with_reducible rfl)
            try simp only [Act.put, List.setIfInBounds_toArray, List.set_cons_zero, List.set_cons_succ]
            refine wpAnyH_take (i := 12) (oi := ⟨some 74, _, _, _, _, _⟩) (v := ?_) rfl (by kernel_rfl) (by kernel_rfl) (by kernel_rfl) (fun _ _ _ h => h) (Or.inl ⟨by rfl, ?_⟩) (by assumption) ?_
            rotate_left
            focus (intro wq hSq; (try dsimp only at hSq); go_simp; try with_reducible rfl)
            try simp only [Act.put, List.setIfInBounds_toArray, List.set_cons_zero, List.set_cons_succ]
            refine wpAnyH_take (i := 13) (oi := ⟨some 75, _, _, _, _, _⟩) (v := ?_) rfl (by kernel_rfl) (by kernel_rfl) (by kernel_rfl) (fun _ _ _ h => h) (Or.inl ⟨by rfl, ?_⟩) (by assumption) ?_
            rotate_left
            focus (intro wq hSq; (try dsimp only at hSq); go_simp; try with_reducible rfl)
            try simp only [Act.put, List.setIfInBounds_toArray, List.set_cons_zero, List.set_cons_succ]
            refine wpAnyH_take (i := 14) (oi := ⟨some 76, _, _, _, _, _⟩) (v := ?_) rfl (by kernel_rfl) (by kernel_rfl) (by kernel_rfl) (fun _ _ _ h => h) (Or.inl ⟨by rfl, ?_⟩) (by assumption) ?_
            rotate_left
            focus (intro wq hSq; (try dsimp only at hSq); go_simp; try with_reducible rfl)
            try simp only [Act.put, List.setIfInBounds_toArray, List.set_cons_zero, List.set_cons_succ]
            refine wpAnyH_take (i := 15) (oi := ⟨some 77, _, _, _, _, _⟩) (v := ?_) rfl (by kernel_rfl) (by kernel_rfl) (by kernel_rfl) (fun _ _ _ h => h) (Or.inl ⟨by rfl, ?_⟩) (by assumption) ?_
            rotate_left
            focus (intro wq hSq; (try dsimp only at hSq); go_simp; try with_reducible rfl)
            try simp only [Act.put, List.setIfInBounds_toArray, List.set_cons_zero, List.set_cons_succ]
            refine wpAnyH_take (i := 16) (oi := ⟨some 78, _, _, _, _, _⟩) (v := ?_) rfl (by kernel_rfl) (by kernel_rfl) (by kernel_rfl) (fun _ _ _ h => h) (Or.inl ⟨by rfl, ?_⟩) (by assumption) ?_
            rotate_left
            focus (intro wq hSq; (try dsimp only at hSq); go_simp; try with_reducible rfl)
            try simp only [Act.put, List.setIfInBounds_toArray, List.set_cons_zero, List.set_cons_succ]
            refine wpAnyH_take (i := 17) (oi := ⟨some 79, _, _, _, _, _⟩) (v := ?_) rfl (by kernel_rfl) (by kernel_rfl) (by kernel_rfl) (fun _ _ _ h => h) (Or.inl ⟨by rfl, ?_⟩) (by assumption) ?_
            rotate_left
            focus (intro wq hSq; (try dsimp only at hSq); go_simp; try with_reducible rfl)
            try simp only [Act.put, List.setIfInBounds_toArray, List.set_cons_zero, List.set_cons_succ]
            refine wpAnyH_take (i := 18) (oi := ⟨some 80, _, _, _, _, _⟩) (v := undef) rfl (by kernel_rfl) (by kernel_rfl) (by kernel_rfl) (fun _ _ _ h => h) (Or.inr ⟨by rfl, rfl⟩) (by assumption) ?_
            try simp only [Act.put, List.setIfInBounds_toArray, List.set_cons_zero, List.set_cons_succ]
            refine wpAnyH_take (i := 19) (oi := ⟨some 81, _, _, _, _, _⟩) (v := undef) rfl (by kernel_rfl) (by kernel_rfl) (by kernel_rfl) (fun _ _ _ h => h) (Or.inr ⟨by rfl, rfl⟩) (by assumption) ?_
            try simp only [Act.put, List.setIfInBounds_toArray, List.set_cons_zero, List.set_cons_succ]
            refine wpAnyH_take (i := 20) (oi := ⟨some 82, _, _, _, _, _⟩) (v := undef) rfl (by kernel_rfl) (by kernel_rfl) (by kernel_rfl) (fun _ _ _ h => h) (Or.inr ⟨by rfl, rfl⟩) (by assumption) ?_
            try simp only [Act.put, List.setIfInBounds_toArray, List.set_cons_zero, List.set_cons_succ]
            refine wpAnyH_take (i := 21) (oi := ⟨some 83, _, _, _, _, _⟩) (v := undef) rfl (by kernel_rfl) (by kernel_rfl) (by kernel_rfl) (fun _ _ _ h => h) (Or.inr ⟨by rfl, rfl⟩) (by assumption) ?_
            try simp only [Act.put, List.setIfInBounds_toArray, List.set_cons_zero, List.set_cons_succ]
            refine wpAnyH_take (i := 22) (oi := ⟨some 84, _, _, _, _, _⟩) (v := undef) rfl (by kernel_rfl) (by kernel_rfl) (by kernel_rfl) (fun _ _ _ h => h) (Or.inr ⟨by rfl, rfl⟩) (by assumption) ?_
            try simp only [Act.put, List.setIfInBounds_toArray, List.set_cons_zero, List.set_cons_succ]
            refine wpAnyH_take (i := 23) (oi := ⟨some 85, _, _, _, _, _⟩) (v := undef) rfl (by kernel_rfl) (by kernel_rfl) (by kernel_rfl) (fun _ _ _ h => h) (Or.inr ⟨by rfl, rfl⟩) (by assumption) ?_
            try simp only [Act.put, List.setIfInBounds_toArray, List.set_cons_zero, List.set_cons_succ]
            refine wpAnyH_take (i := 24) (oi := ⟨some 86, _, _, _, _, _⟩) (v := undef) rfl (by kernel_rfl) (by kernel_rfl) (by kernel_rfl) (fun _ _ _ h => h) (Or.inr ⟨by rfl, rfl⟩) (by assumption) ?_
            try simp only [Act.put, List.setIfInBounds_toArray, List.set_cons_zero, List.set_cons_succ]
            refine wpAnyH_take (i := 25) (oi := ⟨some 87, _, _, _, _, _⟩) (v := undef) rfl (by kernel_rfl) (by kernel_rfl) (by kernel_rfl) (fun _ _ _ h => h) (Or.inr ⟨by rfl, rfl⟩) (by assumption) ?_
            try simp only [Act.put, List.setIfInBounds_toArray, List.set_cons_zero, List.set_cons_succ]
            refine wpAnyH_take (i := 26) (oi := ⟨some 88, _, _, _, _, _⟩) (v := undef) rfl (by kernel_rfl) (by kernel_rfl) (by kernel_rfl) (fun _ _ _ h => h) (Or.inr ⟨by rfl, rfl⟩) (by assumption) ?_
            try simp only [Act.put, List.setIfInBounds_toArray, List.set_cons_zero, List.set_cons_succ]
            refine wpAnyH_take (i := 27) (oi := ⟨some 89, _, _, _, _, _⟩) (v := undef) rfl (by kernel_rfl) (by kernel_rfl) (by kernel_rfl) (fun _ _ _ h => h) (Or.inr ⟨by rfl, rfl⟩) (by assumption) ?_
            try simp only [Act.put, List.setIfInBounds_toArray, List.set_cons_zero, List.set_cons_succ]
            refine wpAnyH_take (i := 28) (oi := ⟨some 90, _, _, _, _, _⟩) (v := undef) rfl (by kernel_rfl) (by kernel_rfl) (by kernel_rfl) (fun _ _ _ h => h) (Or.inr ⟨by rfl, rfl⟩) (by assumption) ?_
            try simp only [Act.put, List.setIfInBounds_toArray, List.set_cons_zero, List.set_cons_succ]
            refine wpAnyH_take (i := 29) (oi := ⟨some 91, _, _, _, _, _⟩) (v := undef) rfl (by kernel_rfl) (by kernel_rfl) (by kernel_rfl) (fun _ _ _ h => h) (Or.inr ⟨by rfl, rfl⟩) (by assumption) ?_
            try simp only [Act.put, List.setIfInBounds_toArray, List.set_cons_zero, List.set_cons_succ]
            refine wpAnyH_take (i := 30) (oi := ⟨some 92, _, _, _, _, _⟩) (v := undef) rfl (by kernel_rfl) (by kernel_rfl) (by kernel_rfl) (fun _ _ _ h => h) (Or.inr ⟨by rfl, rfl⟩) (by assumption) ?_
            try simp only [Act.put, List.setIfInBounds_toArray, List.set_cons_zero, List.set_cons_succ]
            refine wpAnyH_take (i := 31) (oi := ⟨some 93, _, _, _, _, _⟩) (v := undef) rfl (by kernel_rfl) (by kernel_rfl) (by kernel_rfl) (fun _ _ _ h => h) (Or.inr ⟨by rfl, rfl⟩) (by assumption) ?_
            try simp only [Act.put, List.setIfInBounds_toArray, List.set_cons_zero, List.set_cons_succ]
            refine wpAnyH_take (i := 32) (oi := ⟨some 94, _, _, _, _, _⟩) (v := undef) rfl (by kernel_rfl) (by kernel_rfl) (by kernel_rfl) (fun _ _ _ h => h) (Or.inr ⟨by rfl, rfl⟩) (by assumption) ?_
            try simp only [Act.put, List.setIfInBounds_toArray, List.set_cons_zero, List.set_cons_succ]
            refine wpAnyH_take (i := 33) (oi := ⟨some 95, _, _, _, _, _⟩) (v := undef) rfl (by kernel_rfl) (by kernel_rfl) (by kernel_rfl) (fun _ _ _ h => h) (Or.inr ⟨by rfl, rfl⟩) (by assumption) ?_
            try simp only [Act.put, List.setIfInBounds_toArray, List.set_cons_zero, List.set_cons_succ]
            refine wpAnyH_take (i := 34) (oi := ⟨some 96, _, _, _, _, _⟩) (v := undef) rfl (by kernel_rfl) (by kernel_rfl) (by kernel_rfl) (fun _ _ _ h => h) (Or.inr ⟨by rfl, rfl⟩) (by assumption) ?_
            try simp only [Act.put, List.setIfInBounds_toArray, List.set_cons_zero, List.set_cons_succ]
            refine wpAnyH_take (i := 35) (oi := ⟨some 97, _, _, _, _, _⟩) (v := undef) rfl (by kernel_rfl) (by kernel_rfl) (by kernel_rfl) (fun _ _ _ h => h) (Or.inr ⟨by rfl, rfl⟩) (by assumption) ?_
            try simp only [Act.put, List.setIfInBounds_toArray, List.set_cons_zero, List.set_cons_succ]
            refine wpAnyH_take (i := 36) (oi := ⟨some 98, _, _, _, _, _⟩) (v := ?_) rfl (by kernel_rfl) (by kernel_rfl) (by kernel_rfl) (fun _ _ _ h => h) (Or.inl ⟨by rfl, ?_⟩) (by assumption) ?_
            rotate_left
            focus (intro wq hSq; (try dsimp only at hSq); go_simp; try with_reducible rfl)
            try simp only [Act.put, List.setIfInBounds_toArray, List.set_cons_zero, List.set_cons_succ]
            refine wpAnyH_take (i := 37) (oi := ⟨some 99, _, _, _, _, _⟩) (v := ?_) rfl (by kernel_rfl) (by kernel_rfl) (by kernel_rfl) (fun _ _ _ h => h) (Or.inl ⟨by rfl, ?_⟩) (by assumption) ?_
            rotate_left
            focus (intro wq hSq; (try dsimp only at hSq); go_simp; try with_reducible rfl)
            try simp only [Act.put, List.setIfInBounds_toArray, List.set_cons_zero, List.set_cons_succ]
            refine wpAnyH_done (by kernel_rfl) ?_ _
            go_wp2_with fail
            go_roundw
            case rel => exact ⟨k + 1, by omega, by go_num, hb1⟩
            case measure => simp [intOf]; omega
          · obtain ⟨hgx, hmx⟩ := HX.resolve_left h0
            obtain ⟨g1, g2, g3, g4⟩ := HG.out x hgx
            have hne : (x != 0) = true := by simp [h0]
            have hmod : (x.tmod 16 != (k : Int)) = false := by simp [g2, hmx]
            have hdc : decide (Given nK dn x) = true := g1
            have hgiv : ∀ w1 : World, Below W0.heap.size W0 w1 → Calls Tryd.prog 54 #[.agg #[.slice aS nS cS, .slice (some aC') nK cC, .slice (some aK') nK cK, .int .i64 dn, .slice aF nF cF], .int .i64 x] w1 (fun e w' => e = .returned (.bool true) ∧ w'.cell? ⟨w.heap.size, 0, none⟩ = some (.slice aS nS cS) ∧ w'.cell? ⟨w.heap.size, 1, none⟩ = some (.slice (some aC') nK cC) ∧ w'.cell? ⟨w.heap.size, 2, none⟩ = some (.slice (some aK') nK cK) ∧ w'.cell? ⟨w.heap.size, 3, none⟩ = some (.int .i64 dn) ∧ w'.cell? ⟨w.heap.size, 4, none⟩ = some (.slice aF nF cF) ∧ w'.cell? (aC'.add k) = some (.slice a m c) ∧ w'.cell? (aK'.add k) = some (.int .i64 x) ∧ Below W0.heap.size W0 w') := fun w1 hb1 => (HGV.out w1 hb1 x g3 g4).mono (by
              rintro e w' ⟨rfl, hb3⟩
              have r := p0.below hb3 hlt
              obtain ⟨z1, z2⟩ := HKP.out _ hb3
              exact ⟨by rw [hdc], r.c0, r.c1, r.c2, r.c3, r.c4, z1, z2, hb3⟩)
            have HGG := Lib.hid hgiv
            clear hkp HX HKP hla e2 hml q hb hb' hx hok hgiv g1 g2 g3 g4 hdc hgx h0
            go_wp2_with fail
            refine wp_region_held_drew (S := (fun w' => w'.cell? ⟨w.heap.size, 0, none⟩ = some (.slice aS nS cS) ∧ w'.cell? ⟨w.heap.size, 1, none⟩ = some (.slice (some aC') nK cC) ∧ w'.cell? ⟨w.heap.size, 2, none⟩ = some (.slice (some aK') nK cK) ∧ w'.cell? ⟨w.heap.size, 3, none⟩ = some (.int .i64 dn) ∧ w'.cell? ⟨w.heap.size, 4, none⟩ = some (.slice aF nF cF) ∧ w'.cell? (aC'.add k) = some (.slice a m c) ∧ w'.cell? (aK'.add k) = some (.int .i64 x))) (by kernel_rfl) ?_ (fun hHeld => ?_)
            focus (exact ⟨q0, q1, q2, q3, q4, hcc, hck⟩)
            refine wpAnyH_take (i := 0) (oi := ⟨some 62, _, _, _, _, _⟩) (v := ?_) rfl (by kernel_rfl) (by kernel_rfl) (by kernel_rfl) (fun _ _ _ h => h) (Or.inl ⟨by rfl, ?_⟩) (by assumption) ?_
            rotate_left
            focus (intro wq hSq; (try dsimp only at hSq); go_simp; try with_reducible rfl)
            try simp only [Act.put, List.setIfInBounds_toArray, List.set_cons_zero, List.set_cons_succ]
            refine wpAnyH_take (i := 1) (oi := ⟨some 63, _, _, _, _, _⟩) (v := ?_) rfl (by kernel_rfl) (by kernel_rfl) (by kernel_rfl) (fun _ _ _ h => h) (Or.inl ⟨by rfl, ?_⟩) (by assumption) ?_
            rotate_left
            focus (intro wq hSq; (try dsimp only at hSq); go_simp; try with_reducible rfl)
            try simp only [Act.put, List.setIfInBounds_toArray, List.set_cons_zero, List.set_cons_succ]
            refine wpAnyH_take (i := 2) (oi := ⟨some 64, _, _, _, _, _⟩) (v := ?_) rfl (by kernel_rfl) (by kernel_rfl) (by kernel_rfl) (fun _ _ _ h => h) (Or.inl ⟨by rfl, ?_⟩) (by assumption) ?_
            rotate_left
            focus (intro wq hSq; (try dsimp only at hSq); go_simp; try with_reducible rfl)
            try simp only [Act.put, List.setIfInBounds_toArray, List.set_cons_zero, List.set_cons_succ]
            refine wpAnyH_take (i := 3) (oi := ⟨some 65, _, _, _, _, _⟩) (v := ?_) rfl (by kernel_rfl) (by kernel_rfl) (by kernel_rfl) (fun _ _ _ h => h) (Or.inl ⟨by rfl, ?_⟩) (by assumption) ?_
            rotate_left
            focus (intro wq hSq; (try dsimp only at hSq); go_simp; try with_reducible rfl)
            try simp only [Act.put, List.setIfInBounds_toArray, List.set_cons_zero, List.set_cons_succ]
            refine wpAnyH_take (i := 4) (oi := ⟨some 66, _, _, _, _, _⟩) (v := ?_) rfl (by kernel_rfl) (by kernel_rfl) (by kernel_rfl) (fun _ _ _ h => h) (Or.inl ⟨by rfl, ?_⟩) (by assumption) ?_
            rotate_left
            focus (intro wq hSq; (try dsimp only at hSq); go_simp; try with_reducible rfl)
            try simp only [Act.put, List.setIfInBounds_toArray, List.set_cons_zero, List.set_cons_succ]
            refine wpAnyH_take (i := 5) (oi := ⟨some 67, _, _, _, _, _⟩) (v := ?_) rfl (by kernel_rfl) (by kernel_rfl) (by kernel_rfl) (fun _ _ _ h => h) (Or.inl ⟨by rfl, ?_⟩) (by assumption) ?_
            rotate_left
            focus (intro wq hSq; (try dsimp only at hSq); go_simp; try with_reducible rfl)
            try simp only [Act.put, List.setIfInBounds_toArray, List.set_cons_zero, List.set_cons_succ]
            refine wpAnyH_take (i := 6) (oi := ⟨some 68, _, _, _, _, _⟩) (v := ?_) rfl (by kernel_rfl) (by kernel_rfl) (by kernel_rfl) (fun _ _ _ h => h) (Or.inl ⟨by rfl, ?_⟩) (by assumption) ?_
            rotate_left
            focus (intro wq hSq; (try dsimp only at hSq); go_simp; try with_reducible rfl)
            try simp only [Act.put, List.setIfInBounds_toArray, List.set_cons_zero, List.set_cons_succ]
            refine wpAnyH_take (i := 7) (oi := ⟨some 69, _, _, _, _, _⟩) (v := ?_) rfl (by kernel_rfl) (by kernel_rfl) (by kernel_rfl) (fun _ _ _ h => h) (Or.inl ⟨by rfl, ?_⟩) (by assumption) ?_
            rotate_left
            focus (intro wq hSq; (try dsimp only at hSq); go_simp; try with_reducible rfl)
            try simp only [Act.put, List.setIfInBounds_toArray, List.set_cons_zero, List.set_cons_succ]
            refine wpAnyH_ready (rs := [8]) (by kernel_rfl) (by simp) ?_
            refine AllReadyH.cons (o := ⟨some 70, _, _, _, _, _⟩) rfl (fun K hK => ?_) AllReadyH.nil
            go_simp
            refine hcall.mono ?_
            rintro e w1 ⟨rfl, k0, k1, k2, k3, k4, k5, k6, hb1⟩
            refine hK.out _ _ ?_ (fun hHeld => ?_)
            focus (exact ⟨k0, k1, k2, k3, k4, k5, k6⟩)
            clear hK K
            try simp only [Act.put, List.setIfInBounds_toArray, List.set_cons_zero, List.set_cons_succ]
            refine wpAnyH_take (i := 9) (oi := ⟨some 71, _, _, _, _, _⟩) (v := ?_) rfl (by kernel_rfl) (by kernel_rfl) (by kernel_rfl) (fun _ _ _ h => h) (Or.inl ⟨by rfl, ?_⟩) (by assumption) ?_
            rotate_left
            focus (intro wq hSq; (try dsimp only at hSq); go_simp; try with_reducible rfl)
            try simp only [Act.put, List.setIfInBounds_toArray, List.set_cons_zero, List.set_cons_succ]
            refine wpAnyH_take (i := 10) (oi := ⟨some 72, _, _, _, _, _⟩) (v := ?_) rfl (by kernel_rfl) (by kernel_rfl) (by kernel_rfl) (fun _ _ _ h => h) (Or.inl ⟨by rfl, ?_⟩) (by assumption) ?_
            rotate_left
            focus (intro wq hSq; (try dsimp only at hSq); go_simp; try with_reducible rfl)
            try simp only [Act.put, List.setIfInBounds_toArray, List.set_cons_zero, List.set_cons_succ]
            refine wpAnyH_take (i := 11) (oi := ⟨some 73, _, _, _, _, _⟩) (v := ?_) rfl (by kernel_rfl) (by kernel_rfl) (by kernel_rfl) (fun _ _ _ h => h) (Or.inl ⟨by rfl, ?_⟩) (by assumption) ?_
            rotate_left
            focus (intro wq hSq; (try dsimp only at hSq); go_simp; try with_reducible rfl)
            try simp only [Act.put, List.setIfInBounds_toArray, List.set_cons_zero, List.set_cons_succ]
            refine wpAnyH_take (i := 12) (oi := ⟨some 74, _, _, _, _, _⟩) (v := ?_) rfl (by kernel_rfl) (by kernel_rfl) (by kernel_rfl) (fun _ _ _ h => h) (Or.inl ⟨by rfl, ?_⟩) (by assumption) ?_
            rotate_left
            focus (intro wq hSq; (try dsimp only at hSq); go_simp; try with_reducible rfl)
            try simp only [Act.put, List.setIfInBounds_toArray, List.set_cons_zero, List.set_cons_succ]
            refine wpAnyH_take (i := 13) (oi := ⟨some 75, _, _, _, _, _⟩) (v := ?_) rfl (by kernel_rfl) (by kernel_rfl) (by kernel_rfl) (fun _ _ _ h => h) (Or.inl ⟨by rfl, ?_⟩) (by assumption) ?_
            rotate_left
            focus (intro wq hSq; (try dsimp only at hSq); go_simp; try with_reducible rfl)
            try simp only [Act.put, List.setIfInBounds_toArray, List.set_cons_zero, List.set_cons_succ]
            refine wpAnyH_take (i := 14) (oi := ⟨some 76, _, _, _, _, _⟩) (v := ?_) rfl (by kernel_rfl) (by kernel_rfl) (by kernel_rfl) (fun _ _ _ h => h) (Or.inl ⟨by rfl, ?_⟩) (by assumption) ?_
            rotate_left
            focus (intro wq hSq; (try dsimp only at hSq); go_simp; try with_reducible rfl)
            try simp only [Act.put, List.setIfInBounds_toArray, List.set_cons_zero, List.set_cons_succ]
            refine wpAnyH_take (i := 15) (oi := ⟨some 77, _, _, _, _, _⟩) (v := ?_) rfl (by kernel_rfl) (by kernel_rfl) (by kernel_rfl) (fun _ _ _ h => h) (Or.inl ⟨by rfl, ?_⟩) (by assumption) ?_
            rotate_left
            focus (intro wq hSq; (try dsimp only at hSq); go_simp; try with_reducible rfl)
            try simp only [Act.put, List.setIfInBounds_toArray, List.set_cons_zero, List.set_cons_succ]
            refine wpAnyH_take (i := 16) (oi := ⟨some 78, _, _, _, _, _⟩) (v := ?_) rfl (by kernel_rfl) (by kernel_rfl) (by kernel_rfl) (fun _ _ _ h => h) (Or.inl ⟨by rfl, ?_⟩) (by assumption) ?_
            rotate_left
            focus (intro wq hSq; (try dsimp only at hSq); go_simp; try with_reducible rfl)
            try simp only [Act.put, List.setIfInBounds_toArray, List.set_cons_zero, List.set_cons_succ]
            refine wpAnyH_take (i := 17) (oi := ⟨some 79, _, _, _, _, _⟩) (v := ?_) rfl (by kernel_rfl) (by kernel_rfl) (by kernel_rfl) (fun _ _ _ h => h) (Or.inl ⟨by rfl, ?_⟩) (by assumption) ?_
            rotate_left
            focus (intro wq hSq; (try dsimp only at hSq); go_simp; try with_reducible rfl)
            try simp only [Act.put, List.setIfInBounds_toArray, List.set_cons_zero, List.set_cons_succ]
            refine wpAnyH_take (i := 18) (oi := ⟨some 80, _, _, _, _, _⟩) (v := ?_) rfl (by kernel_rfl) (by kernel_rfl) (by kernel_rfl) (fun _ _ _ h => h) (Or.inl ⟨by rfl, ?_⟩) (by assumption) ?_
            rotate_left
            focus (intro wq hSq; (try dsimp only at hSq); go_simp; try with_reducible rfl)
            try simp only [Act.put, List.setIfInBounds_toArray, List.set_cons_zero, List.set_cons_succ]
            refine wpAnyH_take (i := 19) (oi := ⟨some 81, _, _, _, _, _⟩) (v := ?_) rfl (by kernel_rfl) (by kernel_rfl) (by kernel_rfl) (fun _ _ _ h => h) (Or.inl ⟨by rfl, ?_⟩) (by assumption) ?_
            rotate_left
            focus (intro wq hSq; (try dsimp only at hSq); go_simp; try with_reducible rfl)
            try simp only [Act.put, List.setIfInBounds_toArray, List.set_cons_zero, List.set_cons_succ]
            refine wpAnyH_take (i := 20) (oi := ⟨some 82, _, _, _, _, _⟩) (v := ?_) rfl (by kernel_rfl) (by kernel_rfl) (by kernel_rfl) (fun _ _ _ h => h) (Or.inl ⟨by rfl, ?_⟩) (by assumption) ?_
            rotate_left
            focus (intro wq hSq; (try dsimp only at hSq); go_simp; try with_reducible rfl)
            try simp only [Act.put, List.setIfInBounds_toArray, List.set_cons_zero, List.set_cons_succ]
            refine wpAnyH_take (i := 21) (oi := ⟨some 83, _, _, _, _, _⟩) (v := ?_) rfl (by kernel_rfl) (by kernel_rfl) (by kernel_rfl) (fun _ _ _ h => h) (Or.inl ⟨by rfl, ?_⟩) (by assumption) ?_
            rotate_left
            focus (intro wq hSq; (try dsimp only at hSq); go_simp; try with_reducible rfl)
            try simp only [Act.put, List.setIfInBounds_toArray, List.set_cons_zero, List.set_cons_succ]
            refine wpAnyH_take (i := 22) (oi := ⟨some 84, _, _, _, _, _⟩) (v := ?_) rfl (by kernel_rfl) (by kernel_rfl) (by kernel_rfl) (fun _ _ _ h => h) (Or.inl ⟨by rfl, ?_⟩) (by assumption) ?_
            rotate_left
            focus (intro wq hSq; (try dsimp only at hSq); go_simp; try with_reducible rfl)
            try simp only [Act.put, List.setIfInBounds_toArray, List.set_cons_zero, List.set_cons_succ]
            refine wpAnyH_take (i := 23) (oi := ⟨some 85, _, _, _, _, _⟩) (v := ?_) rfl (by kernel_rfl) (by kernel_rfl) (by kernel_rfl) (fun _ _ _ h => h) (Or.inl ⟨by rfl, ?_⟩) (by assumption) ?_
            rotate_left
            focus (intro wq hSq; (try dsimp only at hSq); go_simp; try with_reducible rfl)
            try simp only [Act.put, List.setIfInBounds_toArray, List.set_cons_zero, List.set_cons_succ]
            refine wpAnyH_ready (rs := [24]) (by kernel_rfl) (by simp) ?_
            refine AllReadyH.cons (o := ⟨some 86, _, _, _, _, _⟩) rfl (fun K hK => ?_) AllReadyH.nil
            go_simp
            refine (HGG.out w1 hb1).mono ?_
            rintro e w2 ⟨rfl, j0, j1, j2, j3, j4, j5, j6, hb2⟩
            refine hK.out _ _ ?_ (fun hHeld => ?_)
            focus (exact ⟨j0, j1, j2, j3, j4, j5, j6⟩)
            clear hK K
            try simp only [Act.put, List.setIfInBounds_toArray, List.set_cons_zero, List.set_cons_succ]
            refine wpAnyH_take (i := 25) (oi := ⟨some 87, _, _, _, _, _⟩) (v := ?_) rfl (by kernel_rfl) (by kernel_rfl) (by kernel_rfl) (fun _ _ _ h => h) (Or.inl ⟨by rfl, ?_⟩) (by assumption) ?_
            rotate_left
            focus (intro wq hSq; (try dsimp only at hSq); go_simp; try with_reducible rfl)
            try simp only [Act.put, List.setIfInBounds_toArray, List.set_cons_zero, List.set_cons_succ]
            refine wpAnyH_take (i := 26) (oi := ⟨some 88, _, _, _, _, _⟩) (v := ?_) rfl (by kernel_rfl) (by kernel_rfl) (by kernel_rfl) (fun _ _ _ h => h) (Or.inl ⟨by rfl, ?_⟩) (by assumption) ?_
            rotate_left
            focus (intro wq hSq; (try dsimp only at hSq); go_simp; try with_reducible rfl)
            try simp only [Act.put, List.setIfInBounds_toArray, List.set_cons_zero, List.set_cons_succ]
            refine wpAnyH_take (i := 27) (oi := ⟨some 89, _, _, _, _, _⟩) (v := ?_) rfl (by kernel_rfl) (by kernel_rfl) (by kernel_rfl) (fun _ _ _ h => h) (Or.inl ⟨by rfl, ?_⟩) (by assumption) ?_
            rotate_left
            focus (intro wq hSq; (try dsimp only at hSq); go_simp; try with_reducible rfl)
            try simp only [Act.put, List.setIfInBounds_toArray, List.set_cons_zero, List.set_cons_succ]
            refine wpAnyH_take (i := 28) (oi := ⟨some 90, _, _, _, _, _⟩) (v := ?_) rfl (by kernel_rfl) (by kernel_rfl) (by kernel_rfl) (fun _ _ _ h => h) (Or.inl ⟨by rfl, ?_⟩) (by assumption) ?_
            rotate_left
            focus (intro wq hSq; (try dsimp only at hSq); go_simp; try with_reducible rfl)
            try simp only [Act.put, List.setIfInBounds_toArray, List.set_cons_zero, List.set_cons_succ]
            refine wpAnyH_take (i := 29) (oi := ⟨some 91, _, _, _, _, _⟩) (v := ?_) rfl (by kernel_rfl) (by kernel_rfl) (by kernel_rfl) (fun _ _ _ h => h) (Or.inl ⟨by rfl, ?_⟩) (by assumption) ?_
            rotate_left
            focus (intro wq hSq; (try dsimp only at hSq); go_simp; try with_reducible rfl)
            try simp only [Act.put, List.setIfInBounds_toArray, List.set_cons_zero, List.set_cons_succ]
            refine wpAnyH_take (i := 30) (oi := ⟨some 92, _, _, _, _, _⟩) (v := ?_) rfl (by kernel_rfl) (by kernel_rfl) (by kernel_rfl) (fun _ _ _ h => h) (Or.inl ⟨by rfl, ?_⟩) (by assumption) ?_
            rotate_left
            focus (intro wq hSq; (try dsimp only at hSq); go_simp; try with_reducible rfl)
            try simp only [Act.put, List.setIfInBounds_toArray, List.set_cons_zero, List.set_cons_succ]
            refine wpAnyH_take (i := 31) (oi := ⟨some 93, _, _, _, _, _⟩) (v := ?_) rfl (by kernel_rfl) (by kernel_rfl) (by kernel_rfl) (fun _ _ _ h => h) (Or.inl ⟨by rfl, ?_⟩) (by assumption) ?_
            rotate_left
            focus (intro wq hSq; (try dsimp only at hSq); go_simp; try with_reducible rfl)
            try simp only [Act.put, List.setIfInBounds_toArray, List.set_cons_zero, List.set_cons_succ]
            refine wpAnyH_take (i := 32) (oi := ⟨some 94, _, _, _, _, _⟩) (v := ?_) rfl (by kernel_rfl) (by kernel_rfl) (by kernel_rfl) (fun _ _ _ h => h) (Or.inl ⟨by rfl, ?_⟩) (by assumption) ?_
            rotate_left
            focus (intro wq hSq; (try dsimp only at hSq); go_simp; try with_reducible rfl)
            try simp only [Act.put, List.setIfInBounds_toArray, List.set_cons_zero, List.set_cons_succ]
            refine wpAnyH_take (i := 33) (oi := ⟨some 95, _, _, _, _, _⟩) (v := ?_) rfl (by kernel_rfl) (by kernel_rfl) (by kernel_rfl) (fun _ _ _ h => h) (Or.inl ⟨by rfl, ?_⟩) (by assumption) ?_
            rotate_left
            focus (intro wq hSq; (try dsimp only at hSq); go_simp; try with_reducible rfl)
            try simp only [Act.put, List.setIfInBounds_toArray, List.set_cons_zero, List.set_cons_succ]
            refine wpAnyH_take (i := 34) (oi := ⟨some 96, _, _, _, _, _⟩) (v := ?_) rfl (by kernel_rfl) (by kernel_rfl) (by kernel_rfl) (fun _ _ _ h => h) (Or.inl ⟨by rfl, ?_⟩) (by assumption) ?_
            rotate_left
            focus (intro wq hSq; (try dsimp only at hSq); go_simp; try with_reducible rfl)
            try simp only [Act.put, List.setIfInBounds_toArray, List.set_cons_zero, List.set_cons_succ]
            refine wpAnyH_take (i := 35) (oi := ⟨some 97, _, _, _, _, _⟩) (v := ?_) rfl (by kernel_rfl) (by kernel_rfl) (by kernel_rfl) (fun _ _ _ h => h) (Or.inl ⟨by rfl, ?_⟩) (by assumption) ?_
            rotate_left
            focus (intro wq hSq; (try dsimp only at hSq); go_simp; try with_reducible rfl)
            try simp only [Act.put, List.setIfInBounds_toArray, List.set_cons_zero, List.set_cons_succ]
            refine wpAnyH_take (i := 36) (oi := ⟨some 98, _, _, _, _, _⟩) (v := ?_) rfl (by kernel_rfl) (by kernel_rfl) (by kernel_rfl) (fun _ _ _ h => h) (Or.inl ⟨by rfl, ?_⟩) (by assumption) ?_
            rotate_left
            focus (intro wq hSq; (try dsimp only at hSq); go_simp; try with_reducible rfl)
            try simp only [Act.put, List.setIfInBounds_toArray, List.set_cons_zero, List.set_cons_succ]
            refine wpAnyH_take (i := 37) (oi := ⟨some 99, _, _, _, _, _⟩) (v := ?_) rfl (by kernel_rfl) (by kernel_rfl) (by kernel_rfl) (fun _ _ _ h => h) (Or.inl ⟨by rfl, ?_⟩) (by assumption) ?_
            rotate_left
            focus (intro wq hSq; (try dsimp only at hSq); go_simp; try with_reducible rfl)
            try simp only [Act.put, List.setIfInBounds_toArray, List.set_cons_zero, List.set_cons_succ]
            refine wpAnyH_done (by kernel_rfl) ?_ _
            go_wp2_with fail
            go_roundw
            case rel => exact ⟨k + 1, by omega, by go_num, hb2⟩
            case measure => simp [intOf]; omega
        · go_wp2_with fail
          clear q0 q1 q2 q3 q4
          go_loopw [5] (fun i wr => ∃ k : Nat, k ≤ nF ∧ i = .int .i64 (k : Int) ∧ Below W0.heap.size W0 wr) (fun i _ => nF - (intOf i).toNat)
          case atStart => exact ⟨0, Nat.zero_le _, rfl, hb⟩
          case round =>
            obtain ⟨k, hk, rfl, hb⟩ := hrel
            have q := p0.below hb hlt
            have q0 := q.c0
            have q1 := q.c1
            have q2 := q.c2
            have q3 := q.c3
            have q4 := q.c4
            by_cases hlk : k < nF
            · have hin : k < D.F.length := by rw [HFl.out]; exact hlk
              obtain ⟨aF', ea, _, hck⟩ := int_at (HLF.out.keep fun _ hp => hb.cell hp) hlk hin
              subst ea
              have hgx := HFS.out _ (List.getElem_mem hin)
              have HP : Hid (∀ j : Nat, ∀ hj : j < k, D.F[j]'(by omega) < D.F[k]'hin) := fun j hj => List.pairwise_iff_getElem.1 HFR.out j k (by omega) hin hj
              obtain ⟨x, hx⟩ : ∃ x, D.F[k]'hin = x := ⟨_, rfl⟩
              rw [hx] at hck hgx
              obtain ⟨g1, g2, g3, g4⟩ := HG.out x hgx
              have k0 : (0 : Int) ≤ (k : Int) := by omega
              have k1 : (k : Int) < (nF : Int) := by omega
              by_cases hz : k = 0
              · have hgt : decide ((0 : Int) < (k : Int)) = false := decide_eq_false (by omega)
                have hgt2 : decide (0 < k) = false := decide_eq_false (by omega)
                have hcall : Calls Tryd.prog 54 #[.agg #[.slice aS nS cS, .slice aC nK cC, .slice aK nK cK, .int .i64 dn, .slice (some aF') nF cF], .int .i64 x] (World.drew wr) (fun e w' => e = .returned (.bool true) ∧ w'.cell? ⟨w.heap.size, 0, none⟩ = some (.slice aS nS cS) ∧ w'.cell? ⟨w.heap.size, 1, none⟩ = some (.slice aC nK cC) ∧ w'.cell? ⟨w.heap.size, 2, none⟩ = some (.slice aK nK cK) ∧ w'.cell? ⟨w.heap.size, 3, none⟩ = some (.int .i64 dn) ∧ w'.cell? ⟨w.heap.size, 4, none⟩ = some (.slice (some aF') nF cF) ∧ w'.cell? (aF'.add k) = some (.int .i64 x) ∧ Below W0.heap.size W0 w') := (HGV.out _ hb.drew x g3 g4).mono (by
                  rintro e w' ⟨rfl, hb3⟩
                  have r := p0.below hb3 hlt
                  obtain ⟨aF2, ea, _, z1⟩ := int_at (HLF.out.keep fun _ hp => hb3.cell hp) hlk hin
                  injection ea with ea
                  subst ea
                  rw [hx] at z1
                  exact ⟨by rw [g1], r.c0, r.c1, r.c2, r.c3, r.c4, z1, hb3⟩)
                clear q HP hgx hx g1 g2 g3 g4 hz
                go_wp2_with fail
                refine wp_region_held_drew (S := (fun w' => w'.cell? ⟨w.heap.size, 0, none⟩ = some (.slice aS nS cS) ∧ w'.cell? ⟨w.heap.size, 1, none⟩ = some (.slice aC nK cC) ∧ w'.cell? ⟨w.heap.size, 2, none⟩ = some (.slice aK nK cK) ∧ w'.cell? ⟨w.heap.size, 3, none⟩ = some (.int .i64 dn) ∧ w'.cell? ⟨w.heap.size, 4, none⟩ = some (.slice (some aF') nF cF) ∧ w'.cell? (aF'.add k) = some (.int .i64 x))) (by kernel_rfl) ?_ (fun hHeld => ?_)
                focus (exact ⟨q0, q1, q2, q3, q4, hck⟩)
                refine wpAnyH_take (i := 0) (oi := ⟨some 107, _, _, _, _, _⟩) (v := ?_) rfl (by kernel_rfl) (by kernel_rfl) (by kernel_rfl) (fun _ _ _ h => h) (Or.inl ⟨by rfl, ?_⟩) (by assumption) ?_
                rotate_left
                focus (intro wq hSq; (try dsimp only at hSq); go_simp; try with_reducible rfl)
                try simp only [Act.put, List.setIfInBounds_toArray, List.set_cons_zero, List.set_cons_succ]
                refine wpAnyH_take (i := 1) (oi := ⟨some 108, _, _, _, _, _⟩) (v := ?_) rfl (by kernel_rfl) (by kernel_rfl) (by kernel_rfl) (fun _ _ _ h => h) (Or.inl ⟨by rfl, ?_⟩) (by assumption) ?_
                rotate_left
                focus (intro wq hSq; (try dsimp only at hSq); go_simp; try with_reducible rfl)
                try simp only [Act.put, List.setIfInBounds_toArray, List.set_cons_zero, List.set_cons_succ]
                refine wpAnyH_take (i := 2) (oi := ⟨some 109, _, _, _, _, _⟩) (v := ?_) rfl (by kernel_rfl) (by kernel_rfl) (by kernel_rfl) (fun _ _ _ h => h) (Or.inl ⟨by rfl, ?_⟩) (by assumption) ?_
                rotate_left
                focus (intro wq hSq; (try dsimp only at hSq); go_simp; try with_reducible rfl)
                try simp only [Act.put, List.setIfInBounds_toArray, List.set_cons_zero, List.set_cons_succ]
                refine wpAnyH_take (i := 3) (oi := ⟨some 110, _, _, _, _, _⟩) (v := ?_) rfl (by kernel_rfl) (by kernel_rfl) (by kernel_rfl) (fun _ _ _ h => h) (Or.inl ⟨by rfl, ?_⟩) (by assumption) ?_
                rotate_left
                focus (intro wq hSq; (try dsimp only at hSq); go_simp; try with_reducible rfl)
                try simp only [Act.put, List.setIfInBounds_toArray, List.set_cons_zero, List.set_cons_succ]
                refine wpAnyH_take (i := 4) (oi := ⟨some 111, _, _, _, _, _⟩) (v := ?_) rfl (by kernel_rfl) (by kernel_rfl) (by kernel_rfl) (fun _ _ _ h => h) (Or.inl ⟨by rfl, ?_⟩) (by assumption) ?_
                rotate_left
                focus (intro wq hSq; (try dsimp only at hSq); go_simp; try with_reducible rfl)
                try simp only [Act.put, List.setIfInBounds_toArray, List.set_cons_zero, List.set_cons_succ]
                refine wpAnyH_take (i := 5) (oi := ⟨some 112, _, _, _, _, _⟩) (v := ?_) rfl (by kernel_rfl) (by kernel_rfl) (by kernel_rfl) (fun _ _ _ h => h) (Or.inl ⟨by rfl, ?_⟩) (by assumption) ?_
                rotate_left
                focus (intro wq hSq; (try dsimp only at hSq); go_simp; try with_reducible rfl)
                try simp only [Act.put, List.setIfInBounds_toArray, List.set_cons_zero, List.set_cons_succ]
                refine wpAnyH_ready (rs := [6]) (by kernel_rfl) (by simp) ?_
                refine AllReadyH.cons (o := ⟨some 113, _, _, _, _, _⟩) rfl (fun K hK => ?_) AllReadyH.nil
                go_simp
                refine hcall.mono ?_
                rintro e w2 ⟨rfl, j0, j1, j2, j3, j4, j5, hb2⟩
                refine hK.out _ _ ?_ (fun hHeld => ?_)
                focus (exact ⟨j0, j1, j2, j3, j4, j5⟩)
                clear hK K
                try simp only [Act.put, List.setIfInBounds_toArray, List.set_cons_zero, List.set_cons_succ]
                refine wpAnyH_take (i := 7) (oi := ⟨some 114, _, _, _, _, _⟩) (v := ?_) rfl (by kernel_rfl) (by kernel_rfl) (by kernel_rfl) (fun _ _ _ h => h) (Or.inl ⟨by rfl, ?_⟩) (by assumption) ?_
                rotate_left
                focus (intro wq hSq; (try dsimp only at hSq); go_simp; try with_reducible rfl)
                try simp only [Act.put, List.setIfInBounds_toArray, List.set_cons_zero, List.set_cons_succ]
                refine wpAnyH_take (i := 8) (oi := ⟨some 115, _, _, _, _, _⟩) (v := ?_) rfl (by kernel_rfl) (by kernel_rfl) (by kernel_rfl) (fun _ _ _ h => h) (Or.inl ⟨by rfl, ?_⟩) (by assumption) ?_
                rotate_left
                focus (intro wq hSq; (try dsimp only at hSq); go_simp; try with_reducible rfl)
                try simp only [Act.put, List.setIfInBounds_toArray, List.set_cons_zero, List.set_cons_succ]
                refine wpAnyH_take (i := 9) (oi := ⟨some 116, _, _, _, _, _⟩) (v := ?_) rfl (by kernel_rfl) (by kernel_rfl) (by kernel_rfl) (fun _ _ _ h => h) (Or.inl ⟨by rfl, ?_⟩) (by assumption) ?_
                rotate_left
                focus (intro wq hSq; (try dsimp only at hSq); go_simp; try with_reducible rfl)
                try simp only [Act.put, List.setIfInBounds_toArray, List.set_cons_zero, List.set_cons_succ]
                refine wpAnyH_take (i := 10) (oi := ⟨some 117, _, _, _, _, _⟩) (v := ?_) rfl (by kernel_rfl) (by kernel_rfl) (by kernel_rfl) (fun _ _ _ h => h) (Or.inl ⟨by rfl, ?_⟩) (by assumption) ?_
                rotate_left
                focus (intro wq hSq; (try dsimp only at hSq); go_simp; try with_reducible rfl)
                try simp only [Act.put, List.setIfInBounds_toArray, List.set_cons_zero, List.set_cons_succ]
                refine wpAnyH_take (i := 11) (oi := ⟨some 118, _, _, _, _, _⟩) (v := ?_) rfl (by kernel_rfl) (by kernel_rfl) (by kernel_rfl) (fun _ _ _ h => h) (Or.inl ⟨by rfl, ?_⟩) (by assumption) ?_
                rotate_left
                focus (intro wq hSq; (try dsimp only at hSq); go_simp; try with_reducible rfl)
                try simp only [Act.put, List.setIfInBounds_toArray, List.set_cons_zero, List.set_cons_succ]
                refine wpAnyH_take (i := 12) (oi := ⟨some 119, _, _, _, _, _⟩) (v := undef) rfl (by kernel_rfl) (by kernel_rfl) (by kernel_rfl) (fun _ _ _ h => h) (Or.inr ⟨by rfl, rfl⟩) (by assumption) ?_
                try simp only [Act.put, List.setIfInBounds_toArray, List.set_cons_zero, List.set_cons_succ]
                refine wpAnyH_take (i := 13) (oi := ⟨some 120, _, _, _, _, _⟩) (v := undef) rfl (by kernel_rfl) (by kernel_rfl) (by kernel_rfl) (fun _ _ _ h => h) (Or.inr ⟨by rfl, rfl⟩) (by assumption) ?_
                try simp only [Act.put, List.setIfInBounds_toArray, List.set_cons_zero, List.set_cons_succ]
                refine wpAnyH_take (i := 14) (oi := ⟨some 121, _, _, _, _, _⟩) (v := undef) rfl (by kernel_rfl) (by kernel_rfl) (by kernel_rfl) (fun _ _ _ h => h) (Or.inr ⟨by rfl, rfl⟩) (by assumption) ?_
                try simp only [Act.put, List.setIfInBounds_toArray, List.set_cons_zero, List.set_cons_succ]
                refine wpAnyH_take (i := 15) (oi := ⟨some 122, _, _, _, _, _⟩) (v := undef) rfl (by kernel_rfl) (by kernel_rfl) (by kernel_rfl) (fun _ _ _ h => h) (Or.inr ⟨by rfl, rfl⟩) (by assumption) ?_
                try simp only [Act.put, List.setIfInBounds_toArray, List.set_cons_zero, List.set_cons_succ]
                refine wpAnyH_take (i := 16) (oi := ⟨some 123, _, _, _, _, _⟩) (v := undef) rfl (by kernel_rfl) (by kernel_rfl) (by kernel_rfl) (fun _ _ _ h => h) (Or.inr ⟨by rfl, rfl⟩) (by assumption) ?_
                try simp only [Act.put, List.setIfInBounds_toArray, List.set_cons_zero, List.set_cons_succ]
                refine wpAnyH_take (i := 17) (oi := ⟨some 124, _, _, _, _, _⟩) (v := undef) rfl (by kernel_rfl) (by kernel_rfl) (by kernel_rfl) (fun _ _ _ h => h) (Or.inr ⟨by rfl, rfl⟩) (by assumption) ?_
                try simp only [Act.put, List.setIfInBounds_toArray, List.set_cons_zero, List.set_cons_succ]
                refine wpAnyH_take (i := 18) (oi := ⟨some 125, _, _, _, _, _⟩) (v := undef) rfl (by kernel_rfl) (by kernel_rfl) (by kernel_rfl) (fun _ _ _ h => h) (Or.inr ⟨by rfl, rfl⟩) (by assumption) ?_
                try simp only [Act.put, List.setIfInBounds_toArray, List.set_cons_zero, List.set_cons_succ]
                refine wpAnyH_take (i := 19) (oi := ⟨some 126, _, _, _, _, _⟩) (v := undef) rfl (by kernel_rfl) (by kernel_rfl) (by kernel_rfl) (fun _ _ _ h => h) (Or.inr ⟨by rfl, rfl⟩) (by assumption) ?_
                try simp only [Act.put, List.setIfInBounds_toArray, List.set_cons_zero, List.set_cons_succ]
                refine wpAnyH_take (i := 20) (oi := ⟨some 127, _, _, _, _, _⟩) (v := undef) rfl (by kernel_rfl) (by kernel_rfl) (by kernel_rfl) (fun _ _ _ h => h) (Or.inr ⟨by rfl, rfl⟩) (by assumption) ?_
                try simp only [Act.put, List.setIfInBounds_toArray, List.set_cons_zero, List.set_cons_succ]
                refine wpAnyH_take (i := 21) (oi := ⟨some 128, _, _, _, _, _⟩) (v := undef) rfl (by kernel_rfl) (by kernel_rfl) (by kernel_rfl) (fun _ _ _ h => h) (Or.inr ⟨by rfl, rfl⟩) (by assumption) ?_
                try simp only [Act.put, List.setIfInBounds_toArray, List.set_cons_zero, List.set_cons_succ]
                refine wpAnyH_take (i := 22) (oi := ⟨some 129, _, _, _, _, _⟩) (v := undef) rfl (by kernel_rfl) (by kernel_rfl) (by kernel_rfl) (fun _ _ _ h => h) (Or.inr ⟨by rfl, rfl⟩) (by assumption) ?_
                try simp only [Act.put, List.setIfInBounds_toArray, List.set_cons_zero, List.set_cons_succ]
                refine wpAnyH_take (i := 23) (oi := ⟨some 130, _, _, _, _, _⟩) (v := undef) rfl (by kernel_rfl) (by kernel_rfl) (by kernel_rfl) (fun _ _ _ h => h) (Or.inr ⟨by rfl, rfl⟩) (by assumption) ?_
                try simp only [Act.put, List.setIfInBounds_toArray, List.set_cons_zero, List.set_cons_succ]
                refine wpAnyH_take (i := 24) (oi := ⟨some 131, _, _, _, _, _⟩) (v := ?_) rfl (by kernel_rfl) (by kernel_rfl) (by kernel_rfl) (fun _ _ _ h => h) (Or.inl ⟨by rfl, ?_⟩) (by assumption) ?_
                rotate_left
                focus (intro wq hSq; (try dsimp only at hSq); go_simp; try with_reducible rfl)
                try simp only [Act.put, List.setIfInBounds_toArray, List.set_cons_zero, List.set_cons_succ]
                refine wpAnyH_take (i := 25) (oi := ⟨some 132, _, _, _, _, _⟩) (v := ?_) rfl (by kernel_rfl) (by kernel_rfl) (by kernel_rfl) (fun _ _ _ h => h) (Or.inl ⟨by rfl, ?_⟩) (by assumption) ?_
                rotate_left
                focus (intro wq hSq; (try dsimp only at hSq); go_simp; try with_reducible rfl)
                try simp only [Act.put, List.setIfInBounds_toArray, List.set_cons_zero, List.set_cons_succ]
                refine wpAnyH_done (by kernel_rfl) ?_ _
                go_wp2_with fail
                go_roundw
                case rel => exact ⟨k + 1, by omega, by go_num, hb2⟩
                case measure => simp [intOf]; omega
              · obtain ⟨j, hj⟩ : ∃ j : Nat, j + 1 = k := ⟨k - 1, by omega⟩
                have hgt : decide ((0 : Int) < (k : Int)) = true := decide_eq_true (by omega)
                have hgt2 : decide (0 < k) = true := decide_eq_true (by omega)
                have hjk : (k : Int) - 1 = (j : Int) := by omega
                have hjw : IntKind.i64.wrap (j : Int) = (j : Int) := IntWalk.i64_in _ (by omega)
                have j0 : (0 : Int) ≤ (j : Int) := by omega
                have j1 : (j : Int) < (nF : Int) := by omega
                have hlj : j < nF := by omega
                have hjn : j < D.F.length := by rw [HFl.out]; exact hlj
                have hyx := HP.out j (by omega)
                obtain ⟨y, hy⟩ : ∃ y, D.F[j]'hjn = y := ⟨_, rfl⟩
                rw [hy, hx] at hyx
                have hle : decide (x ≤ y) = false := decide_eq_false (by omega)
                obtain ⟨aF2, ea, _, hcp⟩ := int_at (HLF.out.keep fun _ hp => hb.cell hp) hlj hjn
                injection ea with ea
                subst ea
                rw [hy] at hcp
                have hcall : Calls Tryd.prog 54 #[.agg #[.slice aS nS cS, .slice aC nK cC, .slice aK nK cK, .int .i64 dn, .slice (some aF') nF cF], .int .i64 x] (World.drew wr) (fun e w' => e = .returned (.bool true) ∧ w'.cell? ⟨w.heap.size, 0, none⟩ = some (.slice aS nS cS) ∧ w'.cell? ⟨w.heap.size, 1, none⟩ = some (.slice aC nK cC) ∧ w'.cell? ⟨w.heap.size, 2, none⟩ = some (.slice aK nK cK) ∧ w'.cell? ⟨w.heap.size, 3, none⟩ = some (.int .i64 dn) ∧ w'.cell? ⟨w.heap.size, 4, none⟩ = some (.slice (some aF') nF cF) ∧ w'.cell? (aF'.add k) = some (.int .i64 x) ∧ w'.cell? (aF'.add j) = some (.int .i64 y) ∧ Below W0.heap.size W0 w') := (HGV.out _ hb.drew x g3 g4).mono (by
                  rintro e w' ⟨rfl, hb3⟩
                  have r := p0.below hb3 hlt
                  obtain ⟨aF2, ea, _, z1⟩ := int_at (HLF.out.keep fun _ hp => hb3.cell hp) hlk hin
                  injection ea with ea
                  subst ea
                  rw [hx] at z1
                  obtain ⟨aF2, ea, _, z2⟩ := int_at (HLF.out.keep fun _ hp => hb3.cell hp) hlj hjn
                  injection ea with ea
                  subst ea
                  rw [hy] at z2
                  exact ⟨by rw [g1], r.c0, r.c1, r.c2, r.c3, r.c4, z1, z2, hb3⟩)
                clear q HP hgx hx g1 g2 g3 g4 hz hyx hy hj
                go_wp2_with fail
                refine wp_region_held_drew (S := (fun w' => w'.cell? ⟨w.heap.size, 0, none⟩ = some (.slice aS nS cS) ∧ w'.cell? ⟨w.heap.size, 1, none⟩ = some (.slice aC nK cC) ∧ w'.cell? ⟨w.heap.size, 2, none⟩ = some (.slice aK nK cK) ∧ w'.cell? ⟨w.heap.size, 3, none⟩ = some (.int .i64 dn) ∧ w'.cell? ⟨w.heap.size, 4, none⟩ = some (.slice (some aF') nF cF) ∧ w'.cell? (aF'.add k) = some (.int .i64 x) ∧ w'.cell? (aF'.add j) = some (.int .i64 y))) (by kernel_rfl) ?_ (fun hHeld => ?_)
                focus (exact ⟨q0, q1, q2, q3, q4, hck, hcp⟩)
                refine wpAnyH_take (i := 0) (oi := ⟨some 107, _, _, _, _, _⟩) (v := ?_) rfl (by kernel_rfl) (by kernel_rfl) (by kernel_rfl) (fun _ _ _ h => h) (Or.inl ⟨by rfl, ?_⟩) (by assumption) ?_
                rotate_left
                focus (intro wq hSq; (try dsimp only at hSq); go_simp; try with_reducible rfl)
                try simp only [Act.put, List.setIfInBounds_toArray, List.set_cons_zero, List.set_cons_succ]
                refine wpAnyH_take (i := 1) (oi := ⟨some 108, _, _, _, _, _⟩) (v := ?_) rfl (by kernel_rfl) (by kernel_rfl) (by kernel_rfl) (fun _ _ _ h => h) (Or.inl ⟨by rfl, ?_⟩) (by assumption) ?_
                rotate_left
                focus (intro wq hSq; (try dsimp only at hSq); go_simp; try with_reducible rfl)
                try simp only [Act.put, List.setIfInBounds_toArray, List.set_cons_zero, List.set_cons_succ]
                refine wpAnyH_take (i := 2) (oi := ⟨some 109, _, _, _, _, _⟩) (v := ?_) rfl (by kernel_rfl) (by kernel_rfl) (by kernel_rfl) (fun _ _ _ h => h) (Or.inl ⟨by rfl, ?_⟩) (by assumption) ?_
                rotate_left
                focus (intro wq hSq; (try dsimp only at hSq); go_simp; try with_reducible rfl)
                try simp only [Act.put, List.setIfInBounds_toArray, List.set_cons_zero, List.set_cons_succ]
                refine wpAnyH_take (i := 3) (oi := ⟨some 110, _, _, _, _, _⟩) (v := ?_) rfl (by kernel_rfl) (by kernel_rfl) (by kernel_rfl) (fun _ _ _ h => h) (Or.inl ⟨by rfl, ?_⟩) (by assumption) ?_
                rotate_left
                focus (intro wq hSq; (try dsimp only at hSq); go_simp; try with_reducible rfl)
                try simp only [Act.put, List.setIfInBounds_toArray, List.set_cons_zero, List.set_cons_succ]
                refine wpAnyH_take (i := 4) (oi := ⟨some 111, _, _, _, _, _⟩) (v := ?_) rfl (by kernel_rfl) (by kernel_rfl) (by kernel_rfl) (fun _ _ _ h => h) (Or.inl ⟨by rfl, ?_⟩) (by assumption) ?_
                rotate_left
                focus (intro wq hSq; (try dsimp only at hSq); go_simp; try with_reducible rfl)
                try simp only [Act.put, List.setIfInBounds_toArray, List.set_cons_zero, List.set_cons_succ]
                refine wpAnyH_take (i := 5) (oi := ⟨some 112, _, _, _, _, _⟩) (v := ?_) rfl (by kernel_rfl) (by kernel_rfl) (by kernel_rfl) (fun _ _ _ h => h) (Or.inl ⟨by rfl, ?_⟩) (by assumption) ?_
                rotate_left
                focus (intro wq hSq; (try dsimp only at hSq); go_simp; try with_reducible rfl)
                try simp only [Act.put, List.setIfInBounds_toArray, List.set_cons_zero, List.set_cons_succ]
                refine wpAnyH_ready (rs := [6]) (by kernel_rfl) (by simp) ?_
                refine AllReadyH.cons (o := ⟨some 113, _, _, _, _, _⟩) rfl (fun K hK => ?_) AllReadyH.nil
                go_simp
                refine hcall.mono ?_
                rintro e w2 ⟨rfl, j0, j1, j2, j3, j4, j5, j6, hb2⟩
                refine hK.out _ _ ?_ (fun hHeld => ?_)
                focus (exact ⟨j0, j1, j2, j3, j4, j5, j6⟩)
                clear hK K
                try simp only [Act.put, List.setIfInBounds_toArray, List.set_cons_zero, List.set_cons_succ]
                refine wpAnyH_take (i := 7) (oi := ⟨some 114, _, _, _, _, _⟩) (v := ?_) rfl (by kernel_rfl) (by kernel_rfl) (by kernel_rfl) (fun _ _ _ h => h) (Or.inl ⟨by rfl, ?_⟩) (by assumption) ?_
                rotate_left
                focus (intro wq hSq; (try dsimp only at hSq); go_simp; try with_reducible rfl)
                try simp only [Act.put, List.setIfInBounds_toArray, List.set_cons_zero, List.set_cons_succ]
                refine wpAnyH_take (i := 8) (oi := ⟨some 115, _, _, _, _, _⟩) (v := ?_) rfl (by kernel_rfl) (by kernel_rfl) (by kernel_rfl) (fun _ _ _ h => h) (Or.inl ⟨by rfl, ?_⟩) (by assumption) ?_
                rotate_left
                focus (intro wq hSq; (try dsimp only at hSq); go_simp; try with_reducible rfl)
                try simp only [Act.put, List.setIfInBounds_toArray, List.set_cons_zero, List.set_cons_succ]
                refine wpAnyH_take (i := 9) (oi := ⟨some 116, _, _, _, _, _⟩) (v := ?_) rfl (by kernel_rfl) (by kernel_rfl) (by kernel_rfl) (fun _ _ _ h => h) (Or.inl ⟨by rfl, ?_⟩) (by assumption) ?_
                rotate_left
                focus (intro wq hSq; (try dsimp only at hSq); go_simp; try with_reducible rfl)
                try simp only [Act.put, List.setIfInBounds_toArray, List.set_cons_zero, List.set_cons_succ]
                refine wpAnyH_take (i := 10) (oi := ⟨some 117, _, _, _, _, _⟩) (v := ?_) rfl (by kernel_rfl) (by kernel_rfl) (by kernel_rfl) (fun _ _ _ h => h) (Or.inl ⟨by rfl, ?_⟩) (by assumption) ?_
                rotate_left
                focus (intro wq hSq; (try dsimp only at hSq); go_simp; try with_reducible rfl)
                try simp only [Act.put, List.setIfInBounds_toArray, List.set_cons_zero, List.set_cons_succ]
                refine wpAnyH_take (i := 11) (oi := ⟨some 118, _, _, _, _, _⟩) (v := ?_) rfl (by kernel_rfl) (by kernel_rfl) (by kernel_rfl) (fun _ _ _ h => h) (Or.inl ⟨by rfl, ?_⟩) (by assumption) ?_
                rotate_left
                focus (intro wq hSq; (try dsimp only at hSq); go_simp; try with_reducible rfl)
                try simp only [Act.put, List.setIfInBounds_toArray, List.set_cons_zero, List.set_cons_succ]
                refine wpAnyH_take (i := 12) (oi := ⟨some 119, _, _, _, _, _⟩) (v := ?_) rfl (by kernel_rfl) (by kernel_rfl) (by kernel_rfl) (fun _ _ _ h => h) (Or.inl ⟨by rfl, ?_⟩) (by assumption) ?_
                rotate_left
                focus (intro wq hSq; (try dsimp only at hSq); go_simp; try with_reducible rfl)
                try simp only [Act.put, List.setIfInBounds_toArray, List.set_cons_zero, List.set_cons_succ]
                refine wpAnyH_take (i := 13) (oi := ⟨some 120, _, _, _, _, _⟩) (v := ?_) rfl (by kernel_rfl) (by kernel_rfl) (by kernel_rfl) (fun _ _ _ h => h) (Or.inl ⟨by rfl, ?_⟩) (by assumption) ?_
                rotate_left
                focus (intro wq hSq; (try dsimp only at hSq); go_simp; try with_reducible rfl)
                try simp only [Act.put, List.setIfInBounds_toArray, List.set_cons_zero, List.set_cons_succ]
                refine wpAnyH_take (i := 14) (oi := ⟨some 121, _, _, _, _, _⟩) (v := ?_) rfl (by kernel_rfl) (by kernel_rfl) (by kernel_rfl) (fun _ _ _ h => h) (Or.inl ⟨by rfl, ?_⟩) (by assumption) ?_
                rotate_left
                focus (intro wq hSq; (try dsimp only at hSq); go_simp; try with_reducible rfl)
                try simp only [Act.put, List.setIfInBounds_toArray, List.set_cons_zero, List.set_cons_succ]
                refine wpAnyH_take (i := 15) (oi := ⟨some 122, _, _, _, _, _⟩) (v := ?_) rfl (by kernel_rfl) (by kernel_rfl) (by kernel_rfl) (fun _ _ _ h => h) (Or.inl ⟨by rfl, ?_⟩) (by assumption) ?_
                rotate_left
                focus (intro wq hSq; (try dsimp only at hSq); go_simp; try with_reducible rfl)
                try simp only [Act.put, List.setIfInBounds_toArray, List.set_cons_zero, List.set_cons_succ]
                refine wpAnyH_take (i := 16) (oi := ⟨some 123, _, _, _, _, _⟩) (v := ?_) rfl (by kernel_rfl) (by kernel_rfl) (by kernel_rfl) (fun _ _ _ h => h) (Or.inl ⟨by rfl, ?_⟩) (by assumption) ?_
                rotate_left
                focus (intro wq hSq; (try dsimp only at hSq); go_simp; try with_reducible rfl)
                try simp only [Act.put, List.setIfInBounds_toArray, List.set_cons_zero, List.set_cons_succ]
                refine wpAnyH_take (i := 17) (oi := ⟨some 124, _, _, _, _, _⟩) (v := ?_) rfl (by kernel_rfl) (by kernel_rfl) (by kernel_rfl) (fun _ _ _ h => h) (Or.inl ⟨by rfl, ?_⟩) (by assumption) ?_
                rotate_left
                focus (intro wq hSq; (try dsimp only at hSq); go_simp; try with_reducible rfl)
                try simp only [Act.put, List.setIfInBounds_toArray, List.set_cons_zero, List.set_cons_succ]
                refine wpAnyH_take (i := 18) (oi := ⟨some 125, _, _, _, _, _⟩) (v := ?_) rfl (by kernel_rfl) (by kernel_rfl) (by kernel_rfl) (fun _ _ _ h => h) (Or.inl ⟨by rfl, ?_⟩) (by assumption) ?_
                rotate_left
                focus (intro wq hSq; (try dsimp only at hSq); go_simp; try with_reducible rfl)
                try simp only [Act.put, List.setIfInBounds_toArray, List.set_cons_zero, List.set_cons_succ]
                refine wpAnyH_take (i := 19) (oi := ⟨some 126, _, _, _, _, _⟩) (v := ?_) rfl (by kernel_rfl) (by kernel_rfl) (by kernel_rfl) (fun _ _ _ h => h) (Or.inl ⟨by rfl, ?_⟩) (by assumption) ?_
                rotate_left
                focus (intro wq hSq; (try dsimp only at hSq); go_simp; try with_reducible rfl)
                try simp only [Act.put, List.setIfInBounds_toArray, List.set_cons_zero, List.set_cons_succ]
                refine wpAnyH_take (i := 20) (oi := ⟨some 127, _, _, _, _, _⟩) (v := ?_) rfl (by kernel_rfl) (by kernel_rfl) (by kernel_rfl) (fun _ _ _ h => h) (Or.inl ⟨by rfl, ?_⟩) (by assumption) ?_
                rotate_left
                focus (intro wq hSq; (try dsimp only at hSq); go_simp; try with_reducible rfl)
                try simp only [Act.put, List.setIfInBounds_toArray, List.set_cons_zero, List.set_cons_succ]
                refine wpAnyH_take (i := 21) (oi := ⟨some 128, _, _, _, _, _⟩) (v := ?_) rfl (by kernel_rfl) (by kernel_rfl) (by kernel_rfl) (fun _ _ _ h => h) (Or.inl ⟨by rfl, ?_⟩) (by assumption) ?_
                rotate_left
                focus (intro wq hSq; (try dsimp only at hSq); go_simp; try with_reducible rfl)
                try simp only [Act.put, List.setIfInBounds_toArray, List.set_cons_zero, List.set_cons_succ]
                refine wpAnyH_take (i := 22) (oi := ⟨some 129, _, _, _, _, _⟩) (v := ?_) rfl (by kernel_rfl) (by kernel_rfl) (by kernel_rfl) (fun _ _ _ h => h) (Or.inl ⟨by rfl, ?_⟩) (by assumption) ?_
                rotate_left
                focus (intro wq hSq; (try dsimp only at hSq); go_simp; try with_reducible rfl)
                try simp only [Act.put, List.setIfInBounds_toArray, List.set_cons_zero, List.set_cons_succ]
                refine wpAnyH_take (i := 23) (oi := ⟨some 130, _, _, _, _, _⟩) (v := ?_) rfl (by kernel_rfl) (by kernel_rfl) (by kernel_rfl) (fun _ _ _ h => h) (Or.inl ⟨by rfl, ?_⟩) (by assumption) ?_
                rotate_left
                focus (intro wq hSq; (try dsimp only at hSq); go_simp; try with_reducible rfl)
                try simp only [Act.put, List.setIfInBounds_toArray, List.set_cons_zero, List.set_cons_succ]
                refine wpAnyH_take (i := 24) (oi := ⟨some 131, _, _, _, _, _⟩) (v := ?_) rfl (by kernel_rfl) (by kernel_rfl) (by kernel_rfl) (fun _ _ _ h => h) (Or.inl ⟨by rfl, ?_⟩) (by assumption) ?_
                rotate_left
                focus (intro wq hSq; (try dsimp only at hSq); go_simp; try with_reducible rfl)
                try simp only [Act.put, List.setIfInBounds_toArray, List.set_cons_zero, List.set_cons_succ]
                refine wpAnyH_take (i := 25) (oi := ⟨some 132, _, _, _, _, _⟩) (v := ?_) rfl (by kernel_rfl) (by kernel_rfl) (by kernel_rfl) (fun _ _ _ h => h) (Or.inl ⟨by rfl, ?_⟩) (by assumption) ?_
                rotate_left
                focus (intro wq hSq; (try dsimp only at hSq); go_simp; try with_reducible rfl)
                try simp only [Act.put, List.setIfInBounds_toArray, List.set_cons_zero, List.set_cons_succ]
                refine wpAnyH_done (by kernel_rfl) ?_ _
                go_wp2_with fail
                go_roundw
                case rel => exact ⟨k + 1, by omega, by go_num, hb2⟩
                case measure => simp [intOf]; omega
            · go_wp2_with fail
              go_ret
              exact ⟨rfl, hb0.trans (hb.mono (by omega))⟩

end Go.Proofs.YtjdacpnfgpdjhaaDoor

/-
  The program's device: whether a device may be, of whatever device: by contract.
-/
namespace Go.Proofs.YtjdacpnfgpdjhaaDoor
open Go.RowKit
set_option linter.unusedVariables false
set_option linter.unusedSimpArgs false

/-! ### What is asked, part by part -/
def NodesP (D : Dev) : Prop := 1 ≤ D.K.length ∧ D.K.length ≤ 16 ∧ D.C.length = D.K.length
def KeysP (D : Dev) : Prop := (1 ≤ D.n ∧ D.n ≤ 68719476736) ∧ ∀ (i : Nat) (x : Int), D.K[i]? = some x → x = 0 ∨ (Given D.K.length D.n x ∧ x % 16 = (i : Int))
def FencedP (D : Dev) : Prop := (∀ x ∈ D.F, Given D.K.length D.n x) ∧ D.F.Pairwise (· < ·)
def CachesP (D : Dev) : Prop := ∀ l ∈ D.C, CacheOk l D.S.length
theorem mayD_iff {D : Dev} : MayD D ↔ sMayB D.S = true ∧ NodesP D ∧ CachesP D ∧ KeysP D ∧ FencedP D := by
  constructor
  · intro h
    exact ⟨(sMay_iff _).2 ⟨h.s1, h.ss⟩, ⟨h.k1, h.k16, h.ck⟩, h.cs, ⟨⟨h.n1, h.n2⟩, h.ks⟩, h.fs, h.fr⟩
  · rintro ⟨h1, ⟨h2, h3, h4⟩, h5, ⟨⟨h6, h7⟩, h8⟩, h9, h10⟩
    obtain ⟨g1, g2⟩ := (sMay_iff _).1 h1
    exact ⟨g1, h2, h3, h4, h6, h7, g2, h5, h8, h9, h10⟩
/-- Numbers of an int. -/
def IntD (x : Int) : Prop := -9223372036854775808 ≤ x ∧ x ≤ 9223372036854775807
def DevBd (D : Dev) : Prop := (∀ x ∈ D.K, IntD x) ∧ ∀ x ∈ D.F, IntD x
/-- Any proposition's truth. -/
theorem ex_bool (P : Prop) : ∃ b : Bool, b = true ↔ P := ⟨@decide P (Classical.propDecidable P), by simp⟩
theorem iff_yes {b : Bool} {P : Prop} (h : b = true ↔ P) (hp : P) : b = true := h.2 hp
theorem iff_no {b : Bool} {P : Prop} (h : b = true ↔ P) (hp : ¬ P) : b = false := by
  cases b
  · rfl
  · exact absurd (h.1 rfl) hp

set_option maxRecDepth 100000 in
theorem nodesMay_all (v : Value) (D : Dev) (B : Nat) (b : Bool) (w : World) (hD : DevAt w B v D) (hb : b = true ↔ NodesP D) :
    Calls Tryd.prog 98 #[v] w fun e w' => e = .returned (.bool b) ∧ Below w.heap.size w w' := by
  obtain ⟨vS, vC, vK, vF, rfl, _, ⟨aC, cC, rfl, _, hCm, _⟩, ⟨aK, cK, rfl, _, hKm, _⟩, _⟩ := hD
  have hP : b = true ↔ (1 ≤ D.K.length ∧ D.K.length ≤ 16 ∧ D.C.length = D.K.length) := hb
  generalize D.n = n
  clear hb
  generalize D.K.length = nK at *
  generalize D.C.length = nC at *
  have hb := below_alloc w (.cells #[vS, .slice aC nC cC, .slice aK nK cK, .int .i64 n, vF] 126)
  by_cases h1 : 1 ≤ nK
  · have h1' : (1 : Int) ≤ (nK : Int) := by omega
    by_cases h2 : nK ≤ 16
    · have h2' : (nK : Int) ≤ 16 := by omega
      by_cases h3 : nC = nK
      · obtain rfl := h3
        have HV := Lib.hid (hP.2 ⟨h1, h2, rfl⟩)
        clear hP h1 h2
        go_enter Tryd.func98, Tryd.ntmps98
        go_wp2_with fail
        go_ret
        exact ⟨by rw [HV.out] <;> rfl, hb⟩
      · have HV := Lib.hid (iff_no hP (fun h => h3 h.2.2))
        have h3' : ((nC : Int) == (nK : Int)) = false := by rw [beq_eq_false_iff_ne]; omega
        clear hP h1 h2 h3
        go_enter Tryd.func98, Tryd.ntmps98
        go_wp2_with fail
        go_ret
        exact ⟨by rw [HV.out] <;> rfl, hb⟩
    · have HV := Lib.hid (iff_no hP (fun h => h2 h.2.1))
      have h2' : decide ((nK : Int) ≤ 16) = false := decide_eq_false (by omega)
      clear hP h1 h2
      go_enter Tryd.func98, Tryd.ntmps98
      go_wp2_with fail
      go_ret
      exact ⟨by rw [HV.out] <;> rfl, hb⟩
  · have HV := Lib.hid (iff_no hP (fun h => h1 h.1))
    have h1' : decide ((1 : Int) ≤ (nK : Int)) = false := decide_eq_false (by omega)
    clear hP h1
    go_enter Tryd.func98, Tryd.ntmps98
    go_wp2_with fail
    go_ret
    exact ⟨by rw [HV.out] <;> rfl, hb⟩

set_option maxRecDepth 100000 in
set_option maxHeartbeats 2000000 in
theorem keysMay_all (v : Value) (D : Dev) (b : Bool) (w : World) (hD : DevAt w w.heap.size v D) (hB : ∀ x ∈ D.K, IntD x) (hP : b = true ↔ KeysP D) (h16 : D.K.length ≤ 16) :
    Calls Tryd.prog 100 #[v] w fun e w' => e = .returned (.bool b) ∧ Below w.heap.size w w' := by
  have hD0 := hD
  obtain ⟨vS, vC, vK, vF, rfl, _, _, ⟨aK, cK, rfl, hKc, hKm, hK⟩, _⟩ := hD
  have HP := Lib.hid hP
  have HB := Lib.hid hB
  clear hP hB
  obtain ⟨W0, hW⟩ : ∃ W0, W0 = w.alloc (.cells #[vS, vC, .slice aK D.K.length cK, .int .i64 D.n, vF] 126) := ⟨_, rfl⟩
  have hb : Below w.heap.size w W0 := hW ▸ below_alloc w _
  have hlt : w.heap.size < W0.heap.size := by rw [hW]; simp
  have p0 : Box5 W0 w.heap.size vS vC (.slice aK D.K.length cK) D.n vF := hW ▸ Box5.new w _ _ _ _ _ _
  have HK := lies_up hK hb
  have HD := Lib.hid (hD0.up hb)
  have c2 := p0.c2
  have c3 := p0.c3
  clear hK hD0
  obtain ⟨nK, hKl⟩ : ∃ n, D.K.length = n := ⟨_, rfl⟩
  have HKL := Lib.hid hKl
  rw [hKl] at HK hKc c2 p0 hW h16 ⊢
  unfold maxLen at hKm
  by_cases hn1 : 1 ≤ D.n
  · have z1 : decide (D.n < 1) = false := decide_eq_false (by omega)
    by_cases hn2 : D.n ≤ 68719476736
    · have z2 : decide ((68719476736 : Int) < D.n) = false := decide_eq_false (by omega)
      have HN := Lib.hid (And.intro hn1 hn2)
      clear hn1 hn2 hKl
      go_enter Tryd.func100, Tryd.ntmps100
      go_wp2_with fail
      rw [← hW]
      clear hW c2 c3 z1 z2
      go_loopw [3, 4, 19] (fun _ _ i wr => ∃ k : Nat, k ≤ nK ∧ i = .int .i64 (k : Int) ∧ Below W0.heap.size W0 wr ∧ Hid (∀ (i : Nat) (x : Int), i < k → D.K[i]? = some x → x = 0 ∨ (Given D.K.length D.n x ∧ x % 16 = (i : Int)))) (fun _ _ i _ => nK - (intOf i).toNat)
      case atStart => exact ⟨0, Nat.zero_le _, rfl, Below.refl _ _, fun i x hi => by omega⟩
      case round =>
        obtain ⟨k, hk, rfl, hbr, HF⟩ := hrel
        by_cases hlk : k < nK
        · have hin : k < D.K.length := by rw [HKL.out]; exact hlk
          obtain ⟨ad, e1, _, hc⟩ := int_at (lies_up HK hbr) hlk hin
          subst e1
          obtain ⟨x, hx⟩ : ∃ x, D.K[k]'hin = x := ⟨_, rfl⟩
          have HX : Hid (D.K[k]? = some x) := by show _ = _; rw [List.getElem?_eq_getElem hin, hx]
          have hxb := HB.out _ (List.getElem_mem hin)
          rw [hx] at hc hxb
          have HNX : Hid ((x = 0 ∨ (Given D.K.length D.n x ∧ x % 16 = (k : Int))) → ∀ (i : Nat) (y : Int), i < k + 1 → D.K[i]? = some y → y = 0 ∨ (Given D.K.length D.n y ∧ y % 16 = (i : Int))) := fun hh i y hi hy => by
            by_cases e : i = k
            · subst e
              rw [HX.out] at hy
              obtain rfl := Option.some.inj hy
              exact hh
            · exact HF.out i y (by omega) hy
          have HBAD : Hid (¬ (x = 0 ∨ (Given D.K.length D.n x ∧ x % 16 = (k : Int))) → b = false) := fun hh => iff_no HP.out (fun h => hh (h.2 k x HX.out))
          have q := p0.below hbr hlt
          have q0 := q.c0
          have q1 := q.c1
          have q2 := q.c2
          have q3 := q.c3
          have q4 := q.c4
          have HDr := Lib.hid (HD.out.up hbr)
          have hbK : k ≤ 16 := by omega
          clear q hx hin HF
          by_cases h0 : x = 0
          · have HF' := Lib.hid (HNX.out (.inl h0))
            subst h0
            go_wp2_with fail
            go_roundw
            case rel => exact ⟨k + 1, by omega, by go_num, hbr, HF'⟩
            case measure => simp [intOf]; omega
          · have hne : (x == 0) = false := by simpa using h0
            have hne2 : (x != 0) = true := by simpa using h0
            have HX0 := Lib.hid h0
            have hcall := given_any _ D x _ wr HDr.out hxb.1 hxb.2
            rw [HKL.out] at hcall
            clear h0 hxb HDr
            by_cases hg : Given nK D.n x
            · rw [decide_eq_true hg] at hcall
              have hmm := (div16 hg.1).2
              have HGV := Lib.hid hg
              clear hg
              by_cases hr : x % 16 = (k : Int)
              · have HF' := Lib.hid (HNX.out (.inr ⟨by rw [HKL.out]; exact HGV.out, hr⟩))
                rw [hr] at hmm
                clear hr HNX HBAD
                go_wp2_with fail
                refine hcall.mono ?_
                rintro e w' ⟨rfl, hb2⟩
                go_wp2_with fail
                go_roundw
                case rel => exact ⟨k + 1, by omega, by go_num, hbr.trans (hb2.mono hbr.size), HF'⟩
                case measure => simp [intOf]; omega
              · have HV := Lib.hid (HBAD.out (fun h => h.elim HX0.out (fun h => hr h.2)))
                obtain ⟨r, hre⟩ : ∃ r, x % 16 = r := ⟨_, rfl⟩
                rw [hre] at hmm hr
                have hr1 : (r == (k : Int)) = false := by simpa using hr
                have hr2 : (r != (k : Int)) = true := by simpa using hr
                clear hr hre HNX HBAD
                go_wp2_with fail
                refine hcall.mono ?_
                rintro e w' ⟨rfl, hb2⟩
                go_wp2_with fail
                go_ret
                exact ⟨by rw [HV.out] <;> rfl, below_then hb (hbr.trans (hb2.mono hbr.size))⟩
            · rw [decide_eq_false hg] at hcall
              have HV := Lib.hid (HBAD.out (fun h => h.elim HX0.out (fun h => hg (by rw [HKL.out] at h; exact h.1))))
              clear hg HNX HBAD
              go_wp2_with fail
              refine hcall.mono ?_
              rintro e w' ⟨rfl, hb2⟩
              go_wp2_with fail
              go_ret
              exact ⟨by rw [HV.out] <;> rfl, below_then hb (hbr.trans (hb2.mono hbr.size))⟩
        · have HV := Lib.hid (iff_yes HP.out ⟨HN.out, fun i x hx => HF.out i x (by have := (List.getElem?_eq_some_iff.1 hx).1; rw [HKL.out] at this; omega) hx⟩)
          have hkn : k = nK := by omega
          clear HF
          go_wp2_with fail
          go_ret
          exact ⟨by rw [HV.out] <;> rfl, below_then hb hbr⟩
    · have z2 : decide ((68719476736 : Int) < D.n) = true := decide_eq_true (by omega)
      have HV := Lib.hid (iff_no HP.out (fun h => hn2 h.1.2))
      clear hn2 hKl hn1
      go_enter Tryd.func100, Tryd.ntmps100
      go_wp2_with fail
      go_ret
      exact ⟨by rw [HV.out] <;> rfl, hW ▸ hb⟩
  · have z1 : decide (D.n < 1) = true := decide_eq_true (by omega)
    have HV := Lib.hid (iff_no HP.out (fun h => hn1 h.1.1))
    clear hn1 hKl
    go_enter Tryd.func100, Tryd.ntmps100
    go_wp2_with fail
    go_ret
    exact ⟨by rw [HV.out] <;> rfl, hW ▸ hb⟩

end Go.Proofs.YtjdacpnfgpdjhaaDoor

/-
  The program's device: whether fenced keys may be, whether caches may be, of whatever device: by contract.
-/
namespace Go.Proofs.YtjdacpnfgpdjhaaDoor
open Go.RowKit
set_option linter.unusedVariables false
set_option linter.unusedSimpArgs false

/-- The fenced keys so far: the last of them is a (0: none). -/
def FenSo (nk : Nat) (n : Int) (F : List Int) (k : Nat) (a : Int) : Prop := (∀ (j : Nat) (hj : j < F.length), j < k → Given nk n F[j] ∧ F[j] ≤ a) ∧ (∀ (i j : Nat) (hi : i < F.length) (hj : j < F.length), i < j → j < k → F[i] < F[j]) ∧ (k = 0 → a = 0) ∧ (∀ j (hj : j < F.length), k = j + 1 → F[j] = a)
theorem fen_start (nk : Nat) (n : Int) (F : List Int) : FenSo nk n F 0 0 := ⟨fun j hj h => by omega, fun i j hi hj _ h => by omega, fun _ => rfl, fun j hj h => by omega⟩
theorem fen_next {nk : Nat} {n : Int} {F : List Int} {k : Nat} {a x : Int} (h : FenSo nk n F k a) (hk : k < F.length) (e : F[k] = x) (hax : a < x) (hg : Given nk n x) : FenSo nk n F (k + 1) x := by
  refine ⟨fun j hj hjk => ?_, fun i j hi hj hij hjk => ?_, fun h0 => by omega, fun j hj hjk => ?_⟩
  · by_cases ej : j = k
    · subst ej; rw [e]; exact ⟨hg, Int.le_refl _⟩
    · obtain ⟨h1, h2⟩ := h.1 j hj (by omega)
      exact ⟨h1, by omega⟩
  · by_cases ej : j = k
    · subst ej
      have := (h.1 i hi (by omega)).2
      rw [e]; omega
    · exact h.2.1 i j hi hj hij (by omega)
  · obtain rfl : j = k := by omega
    exact e
theorem fen_bad {nk : Nat} {n : Int} {F : List Int} {k : Nat} {a x : Int} (h : FenSo nk n F k a) (hk : k < F.length) (e : F[k] = x) (hax : x ≤ a) : ¬ ((∀ y ∈ F, Given nk n y) ∧ F.Pairwise (· < ·)) := fun ⟨h1, h2⟩ => by
  rcases Nat.eq_zero_or_pos k with h0 | h0
  · have ha := h.2.2.1 h0
    have := (h1 x (e ▸ List.getElem_mem hk)).1
    omega
  · have ha := h.2.2.2 (k - 1) (by omega) (by omega)
    have := List.pairwise_iff_getElem.1 h2 (k - 1) k (by omega) hk (by omega)
    rw [ha, e] at this
    omega
theorem fen_all {nk : Nat} {n : Int} {F : List Int} {k : Nat} {a : Int} (h : FenSo nk n F k a) (hk : k = F.length) : (∀ y ∈ F, Given nk n y) ∧ F.Pairwise (· < ·) := by
  refine ⟨fun y hy => ?_, List.pairwise_iff_getElem.2 fun i j hi hj hij => h.2.1 i j hi hj hij (by omega)⟩
  obtain ⟨j, hj, rfl⟩ := List.getElem_of_mem hy
  exact (h.1 j hj (by omega)).1

set_option maxRecDepth 100000 in
set_option maxHeartbeats 2000000 in
theorem fencedMay_all (v : Value) (D : Dev) (b : Bool) (w : World) (hD : DevAt w w.heap.size v D) (hB : ∀ x ∈ D.F, IntD x) (hP : b = true ↔ FencedP D) :
    Calls Tryd.prog 101 #[v] w fun e w' => e = .returned (.bool b) ∧ Below w.heap.size w w' := by
  have hD0 := hD
  obtain ⟨vS, vC, vK, vF, rfl, _, _, _, ⟨aF, cF, rfl, hFc, hFm, hF⟩⟩ := hD
  have HP := Lib.hid hP
  have HB := Lib.hid hB
  clear hP hB
  obtain ⟨W0, hW⟩ : ∃ W0, W0 = w.alloc (.cells #[vS, vC, vK, .int .i64 D.n, .slice aF D.F.length cF] 126) := ⟨_, rfl⟩
  have hb : Below w.heap.size w W0 := hW ▸ below_alloc w _
  have hlt : w.heap.size < W0.heap.size := by rw [hW]; simp
  have p0 : Box5 W0 w.heap.size vS vC vK D.n (.slice aF D.F.length cF) := hW ▸ Box5.new w _ _ _ _ _ _
  have HF := lies_up hF hb
  have HD := Lib.hid (hD0.up hb)
  obtain ⟨nF, hFl⟩ : ∃ n, D.F.length = n := ⟨_, rfl⟩
  have HFL := Lib.hid hFl
  rw [hFl] at HF hFc p0 hW ⊢
  have c4 := p0.c4
  unfold maxLen at hFm
  clear hF hD0 hFl
  go_enter Tryd.func101, Tryd.ntmps101
  go_wp2_with fail
  rw [← hW]
  clear hW c4
  go_loopw [3, 5, 10] (fun a _ i wr => ∃ k : Nat, ∃ x : Int, k ≤ nF ∧ i = .int .i64 (k : Int) ∧ a = .int .i64 x ∧ Hid (FenSo D.K.length D.n D.F k x) ∧ Below W0.heap.size W0 wr) (fun _ _ i _ => nF - (intOf i).toNat)
  case atStart => exact ⟨0, 0, Nat.zero_le _, rfl, rfl, fen_start _ _ _, Below.refl _ _⟩
  case round =>
    obtain ⟨k, a, hk, rfl, rfl, HA, hbr⟩ := hrel
    by_cases hlk : k < nF
    · have hin : k < D.F.length := by rw [HFL.out]; exact hlk
      obtain ⟨ad, e1, _, hc⟩ := int_at (lies_up HF hbr) hlk hin
      subst e1
      have hxb := HB.out _ (List.getElem_mem hin)
      obtain ⟨x, hx⟩ : ∃ x, D.F[k]'hin = x := ⟨_, rfl⟩
      have HBAD1 : Hid (x ≤ a → b = false) := fun h => iff_no HP.out (fen_bad HA.out hin hx h)
      have HBAD2 : Hid (¬ Given D.K.length D.n x → b = false) := fun h => iff_no HP.out (fun hh => h (hh.1 x (hx ▸ List.getElem_mem hin)))
      have HNX : Hid (a < x → Given D.K.length D.n x → FenSo D.K.length D.n D.F (k + 1) x) := fun h1 h2 => fen_next HA.out hin hx h1 h2
      rw [hx] at hc hxb
      have q := p0.below hbr hlt
      have q0 := q.c0
      have q1 := q.c1
      have q2 := q.c2
      have q3 := q.c3
      have q4 := q.c4
      have hcall := given_any _ D x _ wr (HD.out.up hbr) hxb.1 hxb.2
      rw [HFL.out] at hcall
      clear q hx hin HA hxb
      by_cases hle : x ≤ a
      · have hd : decide (x ≤ a) = true := decide_eq_true hle
        have HV := Lib.hid (HBAD1.out hle)
        clear hle hcall HBAD1 HBAD2 HNX
        go_wp2_with fail
        go_ret
        exact ⟨by rw [HV.out] <;> rfl, below_then hb hbr⟩
      · have hd : decide (x ≤ a) = false := decide_eq_false hle
        have HXA := Lib.hid (show a < x by omega)
        clear hle
        by_cases hg : Given D.K.length D.n x
        · rw [decide_eq_true hg] at hcall
          have HN := Lib.hid (HNX.out HXA.out hg)
          clear hg HBAD1 HBAD2 HNX HXA
          go_wp2_with fail
          refine hcall.mono ?_
          rintro e w' ⟨rfl, hb2⟩
          go_wp2_with fail
          go_roundw
          case rel => exact ⟨k + 1, x, by omega, by go_num, rfl, HN, hbr.trans (hb2.mono hbr.size)⟩
          case measure => simp [intOf]; omega
        · rw [decide_eq_false hg] at hcall
          have HV := Lib.hid (HBAD2.out hg)
          clear hg HBAD1 HBAD2 HNX HXA
          go_wp2_with fail
          refine hcall.mono ?_
          rintro e w' ⟨rfl, hb2⟩
          go_wp2_with fail
          go_ret
          exact ⟨by rw [HV.out] <;> rfl, below_then hb (hbr.trans (hb2.mono hbr.size))⟩
    · have HV := Lib.hid (iff_yes HP.out (fen_all HA.out (by have := HFL.out; omega)))
      have hkn : k = nF := by omega
      clear HA
      go_wp2_with fail
      go_ret
      exact ⟨by rw [HV.out] <;> rfl, below_then hb hbr⟩

/-! ### Caches -/
/-- Which sectors a cache has had so far, and no others. -/
def LastB (L : List Int) (i j : Nat) (l : List Cel) : Prop := ∀ q : Nat, ∀ h : q < L.length, (L[q] = (i : Int) + 1 ↔ ∃ m : Nat, ∃ hm : m < l.length, m < j ∧ (l[m]).1 = (q : Int)) ∧ L[q] ≤ (i : Int) + 1
theorem lastB_start {L : List Int} {i : Nat} (l : List Cel) (h : ∀ q : Nat, ∀ h : q < L.length, L[q] ≤ (i : Int)) : LastB L i 0 l := fun q hq => ⟨⟨fun e => by have := h q hq; omega, fun ⟨m, _, hm, _⟩ => by omega⟩, by have := h q hq; omega⟩
theorem lastB_set {L : List Int} {i j : Nat} {l : List Cel} (h : LastB L i j l) (hj : j < l.length) {s : Nat} (hs : (l[j]).1 = (s : Int)) : LastB (L.set s ((i : Int) + 1)) i (j + 1) l := fun q hq => by
  rw [List.length_set] at hq
  rw [List.getElem_set]
  split
  · rename_i e
    subst e
    exact ⟨⟨fun _ => ⟨j, hj, by omega, hs⟩, fun _ => rfl⟩, Int.le_refl _⟩
  · rename_i e
    refine ⟨⟨fun e2 => ?_, fun ⟨m, h1, h2, h3⟩ => (h q hq).1.2 ⟨m, h1, ?_, h3⟩⟩, (h q hq).2⟩
    · obtain ⟨m, h1, h2, h3⟩ := (h q hq).1.1 e2
      exact ⟨m, h1, by omega, h3⟩
    · by_cases em : m = j
      · subst em
        rw [hs] at h3
        omega
      · omega
/-- The front of a cache. -/
theorem cacheF_next {l : List Cel} {ns j : Nat} (h : CacheOk (l.take j) ns) (hj : j < l.length) {x : Cel} (e : l[j] = x) (hc : 0 ≤ x.1 ∧ x.1 < (ns : Int) ∧ x.2.size ≤ 512) (hn : ∀ (m : Nat) (hm : m < l.length), m < j → (l[m]).1 ≠ x.1) : CacheOk (l.take (j + 1)) ns := by
  refine ⟨fun c hcm => ?_, ?_⟩
  · rw [List.take_succ_eq_append_getElem hj] at hcm
    rcases List.mem_append.1 hcm with h1 | h1
    · exact h.a c h1
    · rw [List.mem_singleton.1 h1, e]; exact hc
  · rw [List.take_succ_eq_append_getElem hj, List.map_append, List.nodup_append]
    refine ⟨h.d, by simp, fun a ha c hcc => ?_⟩
    simp only [List.map_cons, List.map_nil, List.mem_singleton] at hcc
    subst hcc
    obtain ⟨y, hy, rfl⟩ := List.mem_map.1 ha
    obtain ⟨m, hm, rfl⟩ := List.mem_take_iff_getElem.1 hy
    rw [e]
    exact hn m (by omega) (by omega)
theorem cache_twice {l : List Cel} {ns j m : Nat} (h : CacheOk l ns) (hj : j < l.length) (hm : m < j) (e : (l[m]'(by omega)).1 = (l[j]).1) : False := by
  have h1 : (l.map Prod.fst)[m]'(by simp; omega) = (l.map Prod.fst)[j]'(by simpa using hj) := by simp [e]
  have := (List.getElem_inj h.d).1 h1
  omega

end Go.Proofs.YtjdacpnfgpdjhaaDoor

/-
  The document's device: whether a cache may be, of whatever cache: by contract.
-/
namespace Go.Proofs.YtjdacpnfgpdjhaaDoor
open Go.RowKit
set_option linter.unusedVariables false
set_option linter.unusedSimpArgs false

set_option maxRecDepth 100000 in
set_option maxHeartbeats 2000000 in
theorem refCached_all (A : Option Addr) (n c B : Nat) (l : List Cel) (ns : Nat) (b : Bool) (w : World) (hA : Lies w B A (n * 2) (celV l)) (hl : l.length = n) (hn : n ≤ maxLen) (hB : B ≤ w.heap.size) (hP : b = true ↔ CacheOk l ns) :
    Calls Tryd.prog 53 #[.slice A n c, .int .i64 (ns : Int)] w fun e w' => e = .returned (.bool b) ∧ Below w.heap.size w w' := by
  unfold maxLen at hn
  have HP := Lib.hid hP
  have HL := Lib.hid hl
  clear hP hl
  go_enter Tryd.func53, Tryd.ntmps53
  go_wp2_with fail
  go_loopw [5, 6] (fun i _ wr => ∃ k : Nat, k ≤ n ∧ i = .int .i64 (k : Int) ∧ Below w.heap.size w wr ∧ Hid (CacheOk (l.take k) ns)) (fun i _ _ => n - (intOf i).toNat)
  case atStart => exact ⟨0, Nat.zero_le _, rfl, Below.refl _ _, CacheOk.nil _⟩
  case round =>
    obtain ⟨k, hk, rfl, hb, HF⟩ := hrel
    by_cases hlt : k < n
    · have hkl : k < l.length := by rw [HL.out]; exact hlt
      obtain ⟨ad, e1, hab, h1, h2⟩ := cel_at (hA.keep fun p hp => hb.cell (by omega)) HL.out hlt
      subst e1
      have h3 := h2
      rw [← add_twice, add_one] at h3
      obtain ⟨x, hx⟩ : ∃ x, l[k]'hkl = x := ⟨_, rfl⟩
      rw [hx] at h1 h2 h3
      have HX := Lib.hid hx
      have HOKx : Hid (CacheOk l ns → 0 ≤ x.1 ∧ x.1 < (ns : Int) ∧ x.2.size ≤ 512) := fun h => by
        have := h.a _ (List.getElem_mem hkl)
        rw [HX.out] at this
        exact this
      have HTW : Hid (∀ m (hm : m < k), (l[m]'(by omega)).1 = x.1 → b = false) := fun m hm e => iff_no HP.out (fun hok => cache_twice hok hkl hm (by rw [e, HX.out]))
      have HNX : Hid (0 ≤ x.1 ∧ x.1 < (ns : Int) ∧ x.2.size ≤ 512 → (∀ (m : Nat) (hm : m < l.length), m < k → (l[m]).1 ≠ x.1) → CacheOk (l.take (k + 1)) ns) := fun h4 h5 => cacheF_next HF.out hkl HX.out h4 h5
      have HBAD : Hid (¬ (0 ≤ x.1 ∧ x.1 < (ns : Int) ∧ x.2.size ≤ 512) → b = false) := fun h => iff_no HP.out (fun hok => h (HOKx.out hok))
      clear hx HF
      by_cases c0 : 0 ≤ x.1
      · have d0 : decide (x.1 < 0) = false := decide_eq_false (by omega)
        by_cases c1 : x.1 < (ns : Int)
        · have d1 : decide ((ns : Int) ≤ x.1) = false := decide_eq_false (by omega)
          by_cases c2 : x.2.size ≤ 512
          · have d2 : decide ((512 : Int) < (x.2.size : Int)) = false := decide_eq_false (by omega)
            have HN := Lib.hid (HNX.out ⟨c0, c1, c2⟩)
            clear c0 c1 c2 HBAD HNX HOKx
            go_wp2_with fail
            go_loopw [6] (fun i wq => ∃ j : Nat, j ≤ k ∧ i = .int .i64 (j : Int) ∧ Below w.heap.size w wq ∧ Hid (∀ (m : Nat) (hm : m < l.length), m < j → (l[m]).1 ≠ x.1)) (fun i _ => k - (intOf i).toNat)
            case atStart => exact ⟨0, Nat.zero_le _, rfl, hb, fun m _ h => by omega⟩
            case round =>
              obtain ⟨j, hj, rfl, hb2, HM⟩ := hrel
              by_cases hjk : j < k
              · obtain ⟨ad', e1, _, g1, _⟩ := cel_at (hA.keep fun p hp => hb2.cell (by omega)) HL.out (show j < n by omega)
                injection e1 with e1
                subst e1
                obtain ⟨ad', e2, _, g2, _⟩ := cel_at (hA.keep fun p hp => hb2.cell (by omega)) HL.out hlt
                injection e2 with e2
                subst e2
                rw [HX.out] at g2
                have hjl : j < l.length := by omega
                obtain ⟨y, hy⟩ : ∃ y, l[j]'hjl = y := ⟨_, rfl⟩
                rw [hy] at g1
                have j0 : (0 : Int) ≤ (j : Int) := by omega
                have j1 : (j : Int) < (n : Int) := by omega
                have k0 : (0 : Int) ≤ (k : Int) := by omega
                have k1 : (k : Int) < (n : Int) := by omega
                by_cases hyx : y.1 = x.1
                · have ha : (y.1 == x.1) = true := by simpa using hyx
                  have HV := Lib.hid (HTW.out j hjk (by rw [hy]; exact hyx))
                  clear hyx hy h1 h2 h3 HTW HM HN hA
                  go_wp2_with fail
                  go_region_held3 (fun w' => w'.cell? (ad.add (j * 2)) = some (.int .i64 y.1) ∧ w'.cell? (ad.add (k * 2)) = some (.int .i64 x.1)) (go_keep) (fail)
                  go_wp2_with fail
                  go_ret
                  exact ⟨by rw [HV.out] <;> rfl, hb2.drew⟩
                · have ha : (y.1 == x.1) = false := by simpa using hyx
                  have HM' : Hid (∀ (m : Nat) (hm : m < l.length), m < j + 1 → (l[m]).1 ≠ x.1) := fun m hm hmj => by
                    by_cases e : m = j
                    · subst e; rw [hy]; exact hyx
                    · exact HM.out m hm (by omega)
                  clear hyx hy h1 h2 h3 HTW HM HN hA
                  go_wp2_with fail
                  go_region_held3 (fun w' => w'.cell? (ad.add (j * 2)) = some (.int .i64 y.1) ∧ w'.cell? (ad.add (k * 2)) = some (.int .i64 x.1)) (go_keep) (fail)
                  go_wp2_with fail
                  go_roundw
                  case rel => exact ⟨j + 1, by omega, by go_num, hb2.drew, HM'⟩
                  case measure => simp [intOf]; omega
              · have hjn : j = k := by omega
                have HN2 := Lib.hid (HN.out (fun m hm hmk => HM.out m hm (by omega)))
                clear HM HN HTW
                go_wp2_with fail
                go_roundw
                case rel => exact ⟨k + 1, by omega, by go_num, hb2, HN2⟩
                case measure => simp [intOf]; omega
          · have d2 : decide ((512 : Int) < (x.2.size : Int)) = true := decide_eq_true (by omega)
            have HV := Lib.hid (HBAD.out (fun h => c2 h.2.2))
            clear c0 c1 c2 HBAD HNX HOKx HTW hA
            go_wp2_with fail
            go_ret
            exact ⟨by rw [HV.out] <;> rfl, hb⟩
        · have d1 : decide ((ns : Int) ≤ x.1) = true := decide_eq_true (by omega)
          have HV := Lib.hid (HBAD.out (fun h => c1 h.2.1))
          clear c0 c1 HBAD HNX HOKx HTW hA
          go_wp2_with fail
          go_ret
          exact ⟨by rw [HV.out] <;> rfl, hb⟩
      · have d0 : decide (x.1 < 0) = true := decide_eq_true (by omega)
        have HV := Lib.hid (HBAD.out (fun h => c0 h.1))
        clear c0 HBAD HNX HOKx HTW hA
        go_wp2_with fail
        go_ret
        exact ⟨by rw [HV.out] <;> rfl, hb⟩
    · have hkn : k = n := by omega
      have HV := Lib.hid (iff_yes HP.out (by have h := HF.out; rwa [List.take_of_length_le (by rw [HL.out]; omega)] at h))
      clear HF
      go_wp2_with fail
      go_ret
      exact ⟨by rw [HV.out] <;> rfl, hb⟩

end Go.Proofs.YtjdacpnfgpdjhaaDoor
