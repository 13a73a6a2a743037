/-
  The program's device: whether caches may be, whether it may be, Check, of whatever device: by contract.
-/
import Derived.Test.YtjdacpnfgpdjhaaDoorJoinDevRefAll
import Derived.Deep.Cut
namespace Go.Proofs.YtjdacpnfgpdjhaaDoor
open Go.RowKit
set_option linter.unusedVariables false
set_option linter.unusedSimpArgs false

set_option maxRecDepth 100000 in
set_option maxHeartbeats 2000000 in
theorem cachesMay_all (v : Value) (D : Dev) (b : Bool) (w : World) (hD : DevAt w w.heap.size v D) (hS30 : D.S.length ≤ 1099511627776) (h16 : D.C.length ≤ 16) (hP : b = true ↔ CachesP D) :
    Calls Tryd.prog 99 #[v] w fun e w' => e = .returned (.bool b) ∧ Below w.heap.size w w' := by
  have hD0 := hD
  obtain ⟨i0, hi, hz0, hz1, hz2⟩ := info_parts infoInt
  obtain ⟨vS, vC, vK, vF, rfl, ⟨aS, cS, rfl, hSc, hSm, _⟩, ⟨aC, cC, rfl, hCc, hCm, f, hC, hCs⟩, _, _⟩ := hD
  have HP := Lib.hid hP
  clear hP
  obtain ⟨W0, hW⟩ : ∃ W0, W0 = w.alloc (.cells #[.slice aS D.S.length cS, .slice aC D.C.length cC, vK, .int .i64 D.n, vF] 126) := ⟨_, rfl⟩
  have hb : Below w.heap.size w W0 := hW ▸ below_alloc w _
  have hlt : w.heap.size < W0.heap.size := by rw [hW]; simp
  have p0 : Box5 W0 w.heap.size (.slice aS D.S.length cS) (.slice aC D.C.length cC) vK D.n vF := hW ▸ Box5.new w _ _ _ _ _ _
  have HD := Lib.hid (hD0.up hb)
  have HC := lies_up hC hb
  have HS : Hid (∀ i, i < D.C.length → SlC W0 W0.heap.size (f i) (D.C.getD i [])) := fun i hi => (hCs i hi).up hb
  obtain ⟨nC, hCl⟩ : ∃ n, D.C.length = n := ⟨_, rfl⟩
  obtain ⟨nS, hSl⟩ : ∃ n, D.S.length = n := ⟨_, rfl⟩
  have HBAD : Hid (∀ k, k < nC → ¬ CacheOk (D.C.getD k []) nS → b = false) := fun k hk hh => iff_no HP.out (fun h => hh (hSl ▸ h _ (getD_mem (by omega))))
  have HALL : Hid ((∀ k, k < nC → CacheOk (D.C.getD k []) nS) → b = true) := fun h => iff_yes HP.out (fun l hl => by
    obtain ⟨k, hk, rfl⟩ := List.getElem_of_mem hl
    have h2 := h k (by omega)
    rw [List.getD, List.getElem?_eq_getElem hk] at h2
    rw [hSl]
    exact h2)
  rw [hCl] at hCc p0 hW h16 ⊢
  have hC16 : nC ≤ 16 := h16
  clear h16
  rw [hSl] at hSc p0 hW hS30 ⊢
  have HSL := Lib.hid hSl
  have HCL := Lib.hid hCl
  have c0 := p0.c0
  unfold maxLen at hSm hCm
  go_enter Tryd.func99, Tryd.ntmps99
  have hG0 : w.heap.size + 1 = W0.heap.size := by rw [hW]; simp
  go_wp2_with (at_make; refine wpList_make_room _ rfl _ _ 39 rfl (w.heap.size + 1) 3 i0 (.int .i64 0) Tryd.underlying39 hi hz0 hz1 rfl _ _ _ _ nS nS rfl rfl rfl rfl (Nat.le_refl _) ?c3 ?c4 ?c5 ?_)
  case c3 => rw [hz2]; omega
  case c4 => unfold maxLen; omega
  case c5 => simp
  intro w1 hown1 hg1 hs1 _
  rw [← hW] at hg1 hown1
  have hb1 : Below W0.heap.size W0 w1 := (Below.refl _ _).grown hg1 (Nat.le_refl _) (by intro j hj; cases hj)
  rw [hG0] at hown1
  rw [← hW]
  clear hs1 hG0
  obtain ⟨G, hG⟩ : ∃ G, W0.heap.size = G := ⟨_, rfl⟩
  rw [hG] at hown1 hb1 hlt HD HC HS ⊢
  have q := p0.below hb1 hlt
  have q1 := q.c1
  clear q hg1 hW c0
  go_wp2_with fail
  clear q1
  go_loopw [4, 5, 7, 17, 22, 23, 24] (fun _ _ _ i _ _ _ wr => ∃ k : Nat, ∃ L : List Int, k ≤ nC ∧ i = .int .i64 (k : Int) ∧ Below G W0 wr ∧ wr.ownsRow G 3 1 (.slice (some ⟨G, 0, none⟩) nS nS) nS (L.map (Value.int .i64)) ∧ Hid (∀ q : Nat, ∀ h : q < L.length, L[q] ≤ (k : Int)) ∧ Hid (∀ j, j < k → CacheOk (D.C.getD j []) nS)) (fun _ _ _ i _ _ _ _ => nC - (intOf i).toNat)
  case atStart => exact ⟨0, List.replicate nS 0, Nat.zero_le _, rfl, hb1, by rw [List.map_replicate]; exact hown1, fun q h => by simp, fun j hj => by omega⟩
  case round =>
    obtain ⟨k, L, hk, rfl, hbr, hown, HL, HPRE⟩ := hrel
    by_cases hlk : k < nC
    · obtain ⟨ad, a, m, c, e1, hab, hcc, e2, hm, hmc, hcm, hla⟩ := slC_at ((HC.keep fun _ hp => hbr.cell hp)) (fun i hi => (HS.out i hi).keep fun _ hp => hbr.cell hp) rfl (k := k) (by omega)
      subst e1
      have HLM := Lib.hid hm
      have HBD := Lib.hid (HBAD.out k hlk)
      have HPN : Hid (CacheOk (D.C.getD k []) nS → ∀ j, j < k + 1 → CacheOk (D.C.getD j []) nS) := fun hh j hj => by
        by_cases e : j = k
        · subst e; exact hh
        · exact HPRE.out j (by omega)
      generalize D.C.getD k [] = l at *
      clear e2 hm
      unfold maxLen at hcm
      go_wp2_with fail
      go_loopw [7, 24] (fun _ j wq => ∃ n : Nat, ∃ M : List Int, n ≤ m ∧ j = .int .i64 (n : Int) ∧ Below G W0 wq ∧ wq.ownsRow G 3 1 (.slice (some ⟨G, 0, none⟩) nS nS) nS (M.map (Value.int .i64)) ∧ Hid (LastB M k n l) ∧ Hid (CacheOk (l.take n) nS)) (fun _ j _ => m - (intOf j).toNat)
      case atStart => exact ⟨0, L, Nat.zero_le _, rfl, hbr, hown, lastB_start _ HL.out, CacheOk.nil _⟩
      case round =>
        obtain ⟨n, M, hn, rfl, hbq, hownq, HM, HFR⟩ := hrel
        by_cases hln : n < m
        · have hnl : n < l.length := by rw [HLM.out]; exact hln
          obtain ⟨da, ea, hda, hd1, hd2⟩ := cel_at ((hla.keep fun p hp => (World.cell?_of_block (hbq.block _ hp)).trans (World.cell?_of_block (hbr.block _ hp)).symm)) HLM.out hln
          subst ea
          obtain ⟨x, hx⟩ : ∃ x, l[n]'hnl = x := ⟨_, rfl⟩
          have HX := Lib.hid hx
          rw [hx] at hd1 hd2
          obtain ⟨xs, xb⟩ := x
          simp only at hd1 hd2
          have hd3 := hd2
          rw [← add_twice, add_one] at hd3
          have HOKx : Hid (CacheOk l nS → 0 ≤ xs ∧ xs < (nS : Int) ∧ xb.size ≤ 512) := fun h => by
            have := h.a _ (List.getElem_mem hnl)
            rw [HX.out] at this
            exact this
          obtain ⟨W1, hW1⟩ : ∃ W1, W1 = wr.alloc (.cells #[.int .i64 xs, .string xb] 118) := ⟨_, rfl⟩
          have hbW : Below wr.heap.size wr W1 := hW1 ▸ below_alloc wr _
          have pc : Blk W1 wr.heap.size #[.int .i64 xs, .string xb] 118 := hW1 ▸ Blk.new wr _ _
          have hGq : G < wr.heap.size := (hownq.lt G rfl).2
          have hb0W : Below G W0 W1 := hbq.trans (hbW.mono (by omega))
          have hcall := hasD_any _ D xs _ W1 ((HD.out.keep fun p hp => hb0W.cell hp))
          rw [HSL.out, HCL.out] at hcall
          have q := p0.below hb0W hlt
          have q0 := q.c0
          have q1 := q.c1
          have q2 := q.c2
          have q3 := q.c3
          have q4 := q.c4
          have hownW := own_up hownq hbW
          rw [hW1] at q0 q1 q2 q3 q4
          by_cases hin : 0 ≤ xs ∧ xs < (nS : Int)
          · rw [show hasB nS xs = true from decide_eq_true hin] at hcall
            obtain ⟨s, rfl⟩ := Int.eq_ofNat_of_zero_le hin.1
            have hML : M.length = nS := by have := hownq.1; simpa using this
            have hsM : s < M.length := by omega
            have hsn : s < nS := by omega
            have HM2 := Lib.hid (lastB_set HM.out hnl (s := s) (by rw [hx]))
            obtain ⟨y, hy⟩ : ∃ y, M[s]'hsM = y := ⟨_, rfl⟩
            have HY := Lib.hid (hy ▸ (HM.out s hsM).1)
            clear q HM hownq hx HD HC HS
            by_cases hye : y = (k : Int) + 1
            · have hys : (y == (k : Int) + 1) = true := by simpa using hye
              have HV := Lib.hid (HBD.out (fun hok => by
                obtain ⟨m', h1, h2, h3⟩ := HY.out.1 hye
                exact cache_twice hok hnl h2 (by rw [h3, HX.out])))
              clear hye
              go_wp2_with fail
              rw [← hW1]
              refine hcall.mono ?_
              rintro e w2 ⟨rfl, hb2⟩
              have pc2 := pc.below hb2 (by rw [hW1]; simp)
              have e0 : w2.cell? ⟨wr.heap.size, 0, none⟩ = some (.int .i64 (s : Int)) := pc2.cell 0 _ rfl
              have e1 : w2.cell? ⟨wr.heap.size, 1, none⟩ = some (.string xb) := pc2.cell 1 _ rfl
              have own2 := own_up hownW hb2
              have e2 : w2.cell? ⟨G, s, none⟩ = some (.int .i64 y) := by
                rw [own2.cellAt s (by omega), List.getElem?_map, List.getElem?_eq_getElem hsM, hy]; rfl
              have hb3 := hb0W.trans (hb2.mono (by rw [hW1]; simp; omega))
              clear hcall pc pc2 hownW own2 hb2 hb0W hW1 q0 q1 q2 q3 q4 hbW
              go_wp2_with fail
              go_ret
              exact ⟨by rw [HV.out] <;> rfl, hb.trans (hb3.mono (by omega))⟩
            · have hys : (y == (k : Int) + 1) = false := by simpa using hye
              have HNY := Lib.hid hye
              have hsz : Hid (∀ hx2 : xb.size ≤ 512, CacheOk (l.take (n + 1)) nS) := fun hx2 => cacheF_next HFR.out hnl HX.out ⟨by simp, by show (s : Int) < _; omega, hx2⟩ (fun m' h1 h2 h3 => HNY.out (HY.out.2 ⟨m', h1, h2, h3⟩))
              have HLB : Hid (tooL xb = true → b = false) := fun h => HBD.out (fun hok => by
                have := (HOKx.out hok).2.2
                unfold tooL at h
                simp at h
                omega)
              obtain ⟨tl, htl0⟩ : ∃ r, tooL xb = r := ⟨_, rfl⟩
              have HTL := Lib.hid htl0
              have htl := tooLong_any xb
              rw [htl0] at htl HLB
              clear hye htl0
              go_wp2_with fail
              rw [← hW1]
              refine hcall.mono ?_
              rintro e w2 ⟨rfl, hb2⟩
              have pc2 := pc.below hb2 (by rw [hW1]; simp)
              have e0 : w2.cell? ⟨wr.heap.size, 0, none⟩ = some (.int .i64 (s : Int)) := pc2.cell 0 _ rfl
              have e1 : w2.cell? ⟨wr.heap.size, 1, none⟩ = some (.string xb) := pc2.cell 1 _ rfl
              have own2 := own_up hownW hb2
              have e2 : w2.cell? ⟨G, s, none⟩ = some (.int .i64 y) := by
                rw [own2.cellAt s (by omega), List.getElem?_map, List.getElem?_eq_getElem hsM, hy]; rfl
              have e3 : w2.frozen? ⟨G, s, none⟩ = false := own2.frozenAt s
              have own3 := (own2.stored s (.int .i64 ((k : Int) + 1))).1
              have hb3' := hb0W.trans (hb2.mono (by rw [hW1]; simp; omega))
              have hb3 : Below G W0 (w2.setCell ⟨G, s, none⟩ (.int .i64 ((k : Int) + 1))) := hb3'.setCell (by simp) _
              clear hcall pc pc2 hownW own2 hb2 hb0W hW1 q0 q1 q2 q3 q4 hbW
              go_wp2_with fail
              refine (htl _).mono ?_
              rintro e w3 ⟨rfl, rfl⟩
              cases tl with
              | true =>
                have HV := Lib.hid (HLB.out rfl)
                go_wp2_with fail
                go_ret
                exact ⟨by rw [HV.out] <;> rfl, hb.trans (hb3'.mono (by omega))⟩
              | false =>
                have HFN := Lib.hid (hsz.out (by have h := HTL.out; unfold tooL at h; simp at h; omega))
                go_wp2_with fail
                go_roundw
                case rel => exact ⟨n + 1, M.set s ((k : Int) + 1), by omega, by go_num, hb3, by rw [List.map_set]; exact own3, HM2.out, HFN.out⟩
                case measure => simp [intOf]; omega
          · rw [show hasB nS xs = false from decide_eq_false hin] at hcall
            have HV := Lib.hid (HBD.out (fun hok => hin ⟨(HOKx.out hok).1, (HOKx.out hok).2.1⟩))
            clear q HM hownq hx HD HC HS hin
            go_wp2_with fail
            rw [← hW1]
            refine hcall.mono ?_
            rintro e w2 ⟨rfl, hb2⟩
            have hb3 := hb0W.trans (hb2.mono (by rw [hW1]; simp; omega))
            clear hcall pc hownW hb2 hb0W hW1 q0 q1 q2 q3 q4 hbW
            go_wp2_with fail
            go_ret
            exact ⟨by rw [HV.out] <;> rfl, hb.trans (hb3.mono (by omega))⟩
        · have hnm : n = m := by omega
          have HPK := Lib.hid (HPN.out (by have h := HFR.out; rwa [List.take_of_length_le (by rw [HLM.out]; omega)] at h))
          go_wp2_with fail
          go_roundw
          case rel => exact ⟨k + 1, M, by omega, by go_num, hbq, hownq, fun q h => by have := (HM.out q h).2; omega, HPK.out⟩
          case measure => simp [intOf]; omega
    · have hkn : k = nC := by omega
      have HV := Lib.hid (HALL.out (fun j hj => HPRE.out j (by omega)))
      go_wp2_with fail
      go_ret
      exact ⟨by rw [HV.out] <;> rfl, hb.trans (hbr.mono (by omega))⟩

set_option maxRecDepth 100000 in
set_option maxHeartbeats 1000000 in
theorem devMay_all (v : Value) (D : Dev) (b : Bool) (w : World) (hD : DevAt w w.heap.size v D) (hS30 : D.S.length ≤ 1099511627776) (hBd : DevBd D) (hP : b = true ↔ MayD D) :
    Calls Tryd.prog 90 #[v] w fun e w' => e = .returned (.bool b) ∧ Below w.heap.size w w' := by
  obtain ⟨vS, vC, vK, vF, e1, _⟩ := id hD
  obtain ⟨W0, hW⟩ : ∃ W0, W0 = w.alloc (.cells #[vS, vC, vK, .int .i64 D.n, vF] 126) := ⟨_, rfl⟩
  have hb0 : Below w.heap.size w W0 := hW ▸ below_alloc w _
  have hlt : w.heap.size < W0.heap.size := by rw [hW]; simp
  have p0 : Box5 W0 w.heap.size vS vC vK D.n vF := hW ▸ Box5.new w _ _ _ _ _ _
  have HD : Hid (∀ W, Below W0.heap.size W0 W → DevAt W W.heap.size (.agg #[vS, vC, vK, .int .i64 D.n, vF]) D) := fun W h => by subst e1; exact (hD.up hb0).up h
  have HP := Lib.hid (hP.trans mayD_iff)
  obtain ⟨b1, h1⟩ : ∃ b1, sMayB D.S = b1 := ⟨_, rfl⟩
  obtain ⟨b2, h2⟩ : ∃ b2 : Bool, b2 = true ↔ NodesP D := ex_bool _
  obtain ⟨b3, h3⟩ : ∃ b3 : Bool, b3 = true ↔ CachesP D := ex_bool _
  obtain ⟨b4, h4⟩ : ∃ b4 : Bool, b4 = true ↔ KeysP D := ex_bool _
  obtain ⟨b5, h5⟩ : ∃ b5 : Bool, b5 = true ↔ FencedP D := ex_bool _
  have HV : Hid (b = (b1 && (b2 && (b3 && (b4 && b5))))) := by
    show _ = _
    rw [Bool.eq_iff_iff, HP.out]
    simp only [Bool.and_eq_true, h1, h2, h3, h4, h5]
  have C1 : Hid (∀ W, Below W0.heap.size W0 W → Calls Tryd.prog 97 #[.agg #[vS, vC, vK, .int .i64 D.n, vF]] W fun e w' => e = .returned (.bool b1) ∧ Below W.heap.size W w') := fun W h => h1 ▸ sectorsMay_any _ D W (HD.out W h)
  have C2 : Hid (∀ W, Below W0.heap.size W0 W → Calls Tryd.prog 98 #[.agg #[vS, vC, vK, .int .i64 D.n, vF]] W fun e w' => e = .returned (.bool b2) ∧ Below W.heap.size W w') := fun W h => nodesMay_all _ D _ b2 W (HD.out W h) h2
  have C3 : Hid (b2 = true → ∀ W, Below W0.heap.size W0 W → Calls Tryd.prog 99 #[.agg #[vS, vC, vK, .int .i64 D.n, vF]] W fun e w' => e = .returned (.bool b3) ∧ Below W.heap.size W w') := fun hn W h => cachesMay_all _ D b3 W (HD.out W h) hS30 (by have := h2.1 hn; unfold NodesP at this; omega) h3
  have C4 : Hid (b2 = true → ∀ W, Below W0.heap.size W0 W → Calls Tryd.prog 100 #[.agg #[vS, vC, vK, .int .i64 D.n, vF]] W fun e w' => e = .returned (.bool b4) ∧ Below W.heap.size W w') := fun hn W h => keysMay_all _ D b4 W (HD.out W h) hBd.1 h4 (by have := h2.1 hn; unfold NodesP at this; omega)
  have C5 : Hid (∀ W, Below W0.heap.size W0 W → Calls Tryd.prog 101 #[.agg #[vS, vC, vK, .int .i64 D.n, vF]] W fun e w' => e = .returned (.bool b5) ∧ Below W.heap.size W w') := fun W h => fencedMay_all _ D b5 W (HD.out W h) hBd.2 h5
  subst e1
  clear hD hP h1 h2 h3 h4 h5 HD HP
  have q0 := p0.c0
  have q1 := p0.c1
  have q2 := p0.c2
  have q3 := p0.c3
  have q4 := p0.c4
  rw [HV.out]
  go_enter Tryd.func90, Tryd.ntmps90
  go_upto_region 1 with fail
  rw [← hW]
  clear hW
  go_wp2_with fail
  refine (C1.out _ (Below.refl _ _)).mono ?_
  rintro e w1 ⟨rfl, hb1⟩
  clear q0 q1 q2 q3 q4 C1
  cases b1
  · go_wp2_with fail
    go_ret
    exact ⟨rfl, below_then hb0 hb1⟩
  have q := p0.below hb1 hlt
  have q0 := q.c0
  have q1 := q.c1
  have q2 := q.c2
  have q3 := q.c3
  have q4 := q.c4
  have hl1 := Nat.lt_of_lt_of_le hlt hb1.size
  clear q
  go_wp2_with fail
  refine (C2.out _ hb1).mono ?_
  rintro e w2 ⟨rfl, hx⟩
  have hb2 := below_then hb1 hx
  clear q0 q1 q2 q3 q4 C2 hx hl1 hb1
  cases b2
  · go_wp2_with fail
    go_ret
    exact ⟨rfl, below_then hb0 hb2⟩
  have D3 := C3.out rfl
  have D4 := C4.out rfl
  clear C3 C4
  have C3 := Lib.hid D3
  have C4 := Lib.hid D4
  clear D3 D4
  have q := p0.below hb2 hlt
  have q0 := q.c0
  have q1 := q.c1
  have q2 := q.c2
  have q3 := q.c3
  have q4 := q.c4
  have hl1 := Nat.lt_of_lt_of_le hlt hb2.size
  clear q
  go_wp2_with fail
  refine (C3.out _ hb2).mono ?_
  rintro e w3 ⟨rfl, hx⟩
  have hb3 := below_then hb2 hx
  clear q0 q1 q2 q3 q4 hx hl1 hb2
  cases b3
  · go_wp2_with fail
    go_ret
    exact ⟨rfl, below_then hb0 hb3⟩
  have q := p0.below hb3 hlt
  have q0 := q.c0
  have q1 := q.c1
  have q2 := q.c2
  have q3 := q.c3
  have q4 := q.c4
  have hl1 := Nat.lt_of_lt_of_le hlt hb3.size
  clear q
  go_wp2_with fail
  refine (C4.out _ hb3).mono ?_
  rintro e w4 ⟨rfl, hx⟩
  have hb4 := below_then hb3 hx
  clear q0 q1 q2 q3 q4 hx hl1 hb3
  cases b4
  · go_wp2_with fail
    go_ret
    exact ⟨rfl, below_then hb0 hb4⟩
  have q := p0.below hb4 hlt
  have q0 := q.c0
  have q1 := q.c1
  have q2 := q.c2
  have q3 := q.c3
  have q4 := q.c4
  have hl1 := Nat.lt_of_lt_of_le hlt hb4.size
  clear q
  go_wp2_with fail
  refine (C5.out _ hb4).mono ?_
  rintro e w5 ⟨rfl, hx⟩
  have hb5 := below_then hb4 hx
  clear q0 q1 q2 q3 q4 hx hl1 hb4
  go_wp2_with fail
  go_ret
  exact ⟨by simp, below_then hb0 hb5⟩

set_option maxRecDepth 100000 in
theorem devCheck_all (v : Value) (D : Dev) (b : Bool) (w : World) (hD : DevAt w w.heap.size v D) (hS30 : D.S.length ≤ 1099511627776) (hBd : DevBd D) (hP : b = true ↔ MayD D) :
    Calls Tryd.prog 69 #[v] w fun e w' => e = .returned (.int .i64 (if b then 0 else 2)) ∧ Below w.heap.size w w' := by
  obtain ⟨vS, vC, vK, vF, e1, _⟩ := id hD
  obtain ⟨W0, hW⟩ : ∃ W0, W0 = w.alloc (.cells #[vS, vC, vK, .int .i64 D.n, vF] 46) := ⟨_, rfl⟩
  have hb0 : Below w.heap.size w W0 := hW ▸ below_alloc w _
  have hc := Lib.hid (devMay_all _ D b W0 (hD.up hb0) hS30 hBd hP)
  have p0 : Box5 W0 w.heap.size vS vC vK D.n vF := hW ▸ Box5.new w _ _ _ _ _ _
  have q0 := p0.c0
  have q1 := p0.c1
  have q2 := p0.c2
  have q3 := p0.c3
  have q4 := p0.c4
  have hlt : w.heap.size < W0.heap.size := by rw [hW]; simp
  subst e1
  clear hD hP p0
  go_enter Tryd.func69, Tryd.ntmps69
  go_upto_region 1 with fail
  rw [← hW]
  clear hW
  go_wp2_with fail
  refine hc.out.mono ?_
  rintro e w1 ⟨rfl, hb1⟩
  cases b
  · go_wp2_with fail
    go_ret
    exact ⟨rfl, below_then hb0 hb1⟩
  · go_wp2_with fail
    go_ret
    exact ⟨rfl, below_then hb0 hb1⟩

end Go.Proofs.YtjdacpnfgpdjhaaDoor
