/-
  The statement DecidedFront: a row's commands are those of its front, whatever stands behind a place that is not decided; one more is one more: for every row of commands and of texts the call answers true and leaves its arguments as they were. No conditions; the listed table is tied to the program's text.
-/
import Derived.Test.YtjdacpnfgpdjhaaDoorDecWakes
import Derived.Test.YtjdacpnfgpdjhaaDoorDecSame
import Derived.Test.YtjdacpnfgpdjhaaDoorGeoOpen
import Derived.Test.YtjdacpnfgpdjhaaDoorLaid
import Derived.BigQuiet
import Derived.Deep.DeepCutAuto
import Derived.Deep.CutBlock
import Derived.ProofKit
import Derived.ShutString
import Derived.ChangeOld
import Derived.Below
namespace Go.Proofs.YtjdacpnfgpdjhaaDoor.decidedFront
open Go.ChangeShapes Go.WideShapes Go.ChangeAt Go.RowKit
open Go.ChangeMaps (open_string shut_string)
set_option linter.unusedVariables false
set_option linter.unusedSimpArgs false

theorem own : ownKnob Tryd.prog.godebug = none := by kernel_rfl
theorem laidOut : laidOutB Tryd.prog = true := by kernel_rfl
theorem tinfoStr : (Tryd.prog.info? 9).map (fun i => (i.zero, i.size, i.bytes)) = some (some (.string ⟨#[]⟩), 1, 16) := by kernel_rfl
def secV (l : List CmdM) : List Value := (secs l).map Value.string
theorem secV_length (l : List CmdM) : (secV l).length = l.length := by simp [secV, secs]
theorem secV_take {l : List CmdM} {k : Nat} (h : k < l.length) {c : CmdM} (e : l[k] = c) : secV (l.take (k + 1)) = secV (l.take k) ++ [.string (dSec (cText c))] := by
  rw [List.take_succ_eq_append_getElem h, e]
  simp [secV, secs]
theorem secV_one (l : List CmdM) : ∀ u ∈ secV l, u.oneCell' = true := fun u hu => by
  unfold secV at hu
  obtain ⟨a, _, rfl⟩ := List.mem_map.1 hu
  rfl
theorem may_facts {c : CmdM} (h : cMay c = true) : cmE c = 0 ∧ cmS c = cText c ∧ dV (cText c) = dSec (cText c) ∧ dE (cText c) = 0 ∧ (cText c).size ≤ 23 := by
  obtain ⟨h1, h2⟩ := cText_back h
  exact ⟨(cm_yes h).2, (cm_yes h).1, (dV_yes h1).1, (dV_yes h1).2, (cText_size h).2⟩
theorem secs_small {l : List CmdM} (h : ∀ c ∈ l, cMay c = true) : ∀ s ∈ secs l, s.size ≤ maxLen := fun s hs => by
  unfold secs at hs
  obtain ⟨c, hc, rfl⟩ := List.mem_map.1 hs
  have := (dSec_size (cText_back (h c hc)).1).2
  unfold maxLen
  omega
theorem str_new (w : World) (s : ByteArray) (T : TypeId) : ∀ j u, ([Value.string s] : List Value)[j]? = some u → (w.alloc (.cells #[.string s] T)).cell? ((⟨w.heap.size, 0, none⟩ : Addr).add j) = some u := by
  intro j u hj
  obtain ⟨_, h⟩ := lies_new w #[.string s] T (0, 0)
  obtain ⟨ad, e, _, hc⟩ := h Nat.one_pos
  injection e with e
  subst e
  exact hc j u hj
/-- What of a row is told, of which all may be. -/
theorem row_of {m : List CmdM} {B : Nat} {e : Ending} {w' : World} {x : List ByteArray} (h : RowDPost x B e w') (hx : rowO x = some m) :
    ∃ A c, e = .returned (.tuple #[.slice A m.length c, .int .i64 0]) ∧ LiesC w' w'.heap.size A m.length m ∧ m.length ≤ maxLen := by
  rcases h with ⟨h, _⟩ | ⟨m', v, h, rfl, own⟩
  · rw [hx] at h
    cases h
  · rw [hx] at h
    injection h with h
    subst h
    obtain ⟨A, c, rfl, h1, h2⟩ := ow_shape own
    exact ⟨A, c, rfl, ⟨rfl, ow_lies own⟩, Nat.le_trans h1 h2⟩
theorem LiesC.take {w : World} {B n : Nat} {A : Option Addr} {l : List CmdM} (h : LiesC w B A n l) (k : Nat) (hk : k ≤ n) : LiesC w B A k (l.take k) := by
  have h1 : l.length = n := h.1
  refine ⟨by rw [List.length_take]; omega, by rw [cmdV_length, List.length_take]; omega, fun h0 => ?_⟩
  obtain ⟨ad, e, hb, hc⟩ := h.2.2 (by omega)
  refine ⟨ad, e, hb, fun j u hu => hc j u ?_⟩
  have e2 : cmdV l = cmdV (l.take k) ++ cmdV (l.drop k) := by rw [← cmdV_append, List.take_append_drop]
  have hj : j < (cmdV (l.take k)).length := by
    rcases Nat.lt_or_ge j (cmdV (l.take k)).length with h2 | h2
    · exact h2
    · rw [List.getElem?_eq_none h2] at hu; cases hu
  rw [e2, List.getElem?_append_left hj]
  exact hu

set_option maxRecDepth 100000 in
set_option maxHeartbeats 4000000 in
theorem walk (a0 : Option Addr) (n0 c0 : Nat) (l : List CmdM) (a1 : Option Addr) (n1 c1 : Nat) (z1 : List ByteArray) (w : World) (w0 : IsCmds w a0 n0 c0 l) (w1 : IsStrs w a1 n1 c1 z1) (ht : TabOk w) :
    Calls Tryd.prog 6 #[.slice a0 n0 c0, .slice a1 n1 c1] w fun e w' => e = .returned (.bool true) ∧ Below w.heap.size w w' := by
  obtain ⟨hA, hss, hlm⟩ := lies_of_strs w1
  obtain ⟨hK, hkm, hcap, hcm, _⟩ := w0
  generalize z1.take n1 = bs at *
  clear w1
  have HT : Hid (∀ W, Below w.heap.size w W → TabOk W) := fun W h => ht.below h
  have HL : Hid (∀ W, Below w.heap.size w W → Lies W W.heap.size a1 n1 (bs.map Value.string)) := fun W h => (hA.below h).more h.size
  have HK : Hid (∀ W, Below w.heap.size w W → LiesC W W.heap.size a0 n0 l) := fun W h => hK.below h
  have HLn : Hid (l.length = n0) := hK.1
  have HS := Lib.hid hss
  obtain ⟨i0, hi0, hz0, hz1, hz2⟩ := info_parts tinfoStr
  unfold maxLen at hlm hkm hcm
  clear hA hK hss ht
  have HW : Hid (∀ W, Below w.heap.size w W → Calls Tryd.prog 7 #[] W fun e w' => e = .returned (.bool true) ∧ Below W.heap.size W w') := fun W h => dwakes_any W (HT.out W h)
  have b0 := Below.refl w.heap.size w
  go_enter Tryd.func6, Tryd.ntmps6
  by_cases g : n0 ≤ 60 ∧ n1 ≤ 60
  · obtain ⟨g0, g1⟩ := g
    have k0 : decide ((60 : Int) < (n0 : Int)) = false := decide_eq_false (by omega)
    have k1 : decide ((60 : Int) < (n1 : Int)) = false := decide_eq_false (by omega)
    go_wp2_with fail
    go_loopw [5, 6] (fun u i wr => ∃ k : Nat, k ≤ n0 ∧ i = .int .i64 k ∧ wr.ownsRow w.heap.size 9 1 u k (secV (l.take k)) ∧ Hid (∀ c ∈ l.take k, cMay c = true) ∧ Below w.heap.size w wr) (fun _ i _ => n0 - (intOf i).toNat)
    case atStart => exact ⟨0, Nat.zero_le _, rfl, World.ownsRow_nil _ _ _ _, fun c hc => by simp at hc, b0⟩
    case round =>
      clear b0
      obtain ⟨k, hk, rfl, own, HM, hb⟩ := hrel
      have hsz := hb.size
      by_cases hlt : k < n0
      · have hkl : k < l.length := by rw [HLn.out]; exact hlt
        obtain ⟨⟨ck, cb, cs, cd, ca, cl, ch, cm⟩, hx⟩ : ∃ x, l[k] = x := ⟨_, rfl⟩
        obtain ⟨ad, e1, had, d0, d1, d2, d3, d4, d5, d6, d7⟩ := cmd_at (HK.out _ hb) hlt hkl hx
        subst e1
        have HX : Hid (∃ h : k < l.length, l[k] = ⟨ck, cb, cs, cd, ca, cl, ch, cm⟩) := ⟨hkl, hx⟩
        clear hx hkl
        go_wp2_with fail
        refine (cBytes_any ck cb cs cd ca cl ch cm _).mono ?_
        rintro e v1 ⟨rfl, hb1⟩
        have b1 := below_then hb hb1
        have own1 := ow_up own hb1
        clear hb1 hb own d0 d1 d2 d3 d4 d5 d6 d7
        cases hm : cMay ⟨ck, cb, cs, cd, ca, cl, ch, cm⟩ with
        | false =>
          rw [(cm_no hm).1, (cm_no hm).2]
          clear hm own1
          go_wp2_with fail
          refine (HW.out _ b1).mono ?_
          rintro e u2 ⟨rfl, hb2⟩
          have b2 := below_then b1 hb2
          clear hb2 b1
          go_wp2_with fail
          go_ret
          exact ⟨rfl, b2⟩
        | true =>
          have HF := Lib.hid (may_facts hm)
          have HM' : Hid (∀ c ∈ l.take (k + 1), cMay c = true) := fun c hc => by
            obtain ⟨h1, h2⟩ := HX.out
            rw [List.take_succ_eq_append_getElem h1, h2] at hc
            rcases List.mem_append.1 hc with h3 | h3
            · exact HM.out c h3
            · rw [List.mem_singleton.1 h3]; exact hm
          rw [HF.out.1, HF.out.2.1]
          have HV : Hid (secV (l.take (k + 1)) = secV (l.take k) ++ [.string (dSec (cText ⟨ck, cb, cs, cd, ca, cl, ch, cm⟩))]) := by
            obtain ⟨h1, h2⟩ := HX.out
            exact secV_take h1 h2
          have HF := Lib.hid HF.out.2.2
          generalize cText ⟨ck, cb, cs, cd, ca, cl, ch, cm⟩ = B at *
          clear hm
          go_wp2_with fail
          refine (dBytes_any B _ (Nat.le_trans HF.out.2.2 (by decide)) (HT.out _ b1)).mono ?_
          rintro e v2 ⟨rfl, hb2⟩
          rw [HF.out.1, HF.out.2.1]
          have b2 := below_then b1 hb2
          have own2 := ow_up own1 hb2
          clear hb2 b1 own1 HF
          generalize dSec B = S at *
          have bk : Below v2.heap.size v2 (v2.alloc (.cells #[.string S] 9)) := (Below.refl _ _).alloc (Nat.le_refl _) _
          have own3 := ow_up own2 bk
          have b3 := below_then b2 bk
          have hs2 := b2.size
          have hnew := str_new v2 S 9
          clear own2
          go_wp2_with (at_builtin; refine wpList_append_own _ rfl _ _ 22 rfl w.heap.size 9 i0 _ 1 16 Tryd.underlying22 hi0 hz0 hz1 hz2 rfl (by omega) _ _ _ rfl own3 ⟨v2.heap.size, 0, none⟩ 1 1 [.string S] rfl rfl hnew (by intro u hu; rw [List.mem_singleton.1 hu]; rfl) ?d1 ?d2 ?d3 ?_)
          case d1 => unfold maxLen; omega
          case d2 => omega
          case d3 => first | omega | (simp; omega)
          intro v4 w4 hown4 hgrow _
          have hown4 : w4.ownsRow w.heap.size 9 1 v4 (k + 1) (secV (l.take (k + 1))) := by rw [HV.out]; exact hown4
          have b4 : Below w.heap.size w w4 := b3.grown hgrow (by have := b3.size; omega) (fun j hj => (own3.lt j hj).1)
          clear own3 b2 b3 bk hgrow hnew hs2 HV
          obtain ⟨A4, c4, e4, hc4, _⟩ := ow_shape hown4
          subst e4
          have hl4 : Lies w4 w4.heap.size A4 (k + 1) ((secs (l.take (k + 1))).map Value.string) := Lies.of_own hown4
          have HR : Hid (rowO (secs (l.take (k + 1))) = some (l.take (k + 1))) := row_whole HM'.out
          have HN : Hid ((l.take (k + 1)).length = k + 1) := by show _ = _; rw [List.length_take, HLn.out]; omega
          go_wp2_with fail
          refine (dRow_any A4 (k + 1) c4 _ _ hl4 (by omega) (secs_small HM'.out) (HT.out _ b4)).mono ?_
          rintro e v5 ⟨h5, hb5⟩
          obtain ⟨A5, c5, rfl, hl5, _⟩ := row_of h5 HR.out
          have hown5 := ow_up hown4 hb5
          have b5 := below_then b4 hb5
          rw [HN.out] at hl5 ⊢
          clear h5 hb5 b4 hown4 hl4
          have hl0 : LiesC v5 v5.heap.size (some ad) (k + 1) (l.take (k + 1)) := LiesC.take (HK.out _ b5) (k + 1) (by omega)
          obtain ⟨M, hM⟩ : ∃ M, k + 1 = M := ⟨_, rfl⟩
          have kk : (k : Int) + 1 = (M : Int) := by omega
          have kc : M ≤ c0 := by omega
          rw [hM] at hl5 hl0 hown5 HM' HN HR ⊢
          go_wp2_with fail
          refine (refDSame_any A5 (some ad) M c5 M c0 (l.take M) (l.take M) _ hl5 hl0 (by unfold maxLen; omega)).mono ?_
          rintro e v6 ⟨rfl, hb6⟩
          rw [show sameC (l.take M) (l.take M) = true from decide_eq_true rfl]
          have hown6 := ow_up hown5 hb6
          have b6 := below_then b5 hb6
          clear hb6 b5 hown5 hl5 hl0
          subst hM
          clear kk kc
          go_wp2_with fail
          go_roundw
          case rel => exact ⟨k + 1, by omega, by go_num, hown6, HM', b6⟩
          case measure => simp [intOf]; omega
      · have hkn : k = n0 := by omega
        have HMl : Hid (∀ c ∈ l, cMay c = true) := by
          show ∀ _, _
          have := HM.out
          rwa [List.take_of_length_le (by rw [HLn.out]; omega)] at this
        have HVl : Hid (secV (l.take k) = secV l) := by
          show _ = _
          rw [List.take_of_length_le (by rw [HLn.out]; omega)]
        rw [HVl.out, hkn] at own
        clear HVl HM
        have bk : Below wr.heap.size wr (wr.alloc (.cells #[.string ⟨#[]⟩] 9)) := (Below.refl _ _).alloc (Nat.le_refl _) _
        have own3 := ow_up own bk
        have b3 := below_then hb bk
        have hnew := str_new wr ⟨#[]⟩ 9
        clear own
        go_wp2_with (at_builtin; refine wpList_append_own _ rfl _ _ 22 rfl w.heap.size 9 i0 _ 1 16 Tryd.underlying22 hi0 hz0 hz1 hz2 rfl (by omega) _ _ _ rfl own3 ⟨wr.heap.size, 0, none⟩ 1 1 [.string ⟨#[]⟩] rfl rfl hnew (by intro u hu; rw [List.mem_singleton.1 hu]; rfl) ?d1 ?d2 ?d3 ?_)
        case d1 => unfold maxLen; omega
        case d2 => omega
        case d3 => first | omega | (simp; omega)
        intro v4 w4 hown4 hgrow _
        have b4 : Below w.heap.size w w4 := b3.grown hgrow (by have := b3.size; omega) (fun j hj => (own3.lt j hj).1)
        have hl4 := HL.out _ b4
        clear own3 b3 bk hgrow hnew hb
        go_wp2_with (at_builtin; refine wpList_append_lies rfl _ _ 22 rfl w.heap.size 9 i0 (.string ⟨#[]⟩) 16 Tryd.underlying22 hi0 hz0 hz1 hz2 rfl _ _ _ rfl hown4 w4.heap.size a1 n1 c1 (bs.map Value.string) rfl hl4 (by intro u hu; obtain ⟨x, _, rfl⟩ := List.mem_map.1 hu; rfl) ?e1 ?e2 ?e3 ?_)
        case e1 => unfold maxLen; omega
        case e2 => omega
        case e3 => exact b4.size
        intro v5 w5 hown5 hg5
        have b5 : Below w.heap.size w w5 := b4.grown hg5 b4.size (fun j hj => (hown4.lt j hj).1)
        obtain ⟨A5, c5, e5, _, _⟩ := ow_shape hown5
        subst e5
        have hl5 : Lies w5 w5.heap.size A5 (n0 + 1 + n1) ((secs l ++ ⟨#[]⟩ :: bs).map Value.string) := by
          have := Lies.of_own hown5
          unfold secV at this
          simpa using this
        have HR : Hid (rowO (secs l ++ ⟨#[]⟩ :: bs) = some l) := row_front HMl.out bs
        have HZ : Hid (∀ s ∈ secs l ++ ⟨#[]⟩ :: bs, s.size ≤ maxLen) := fun s hs => by
          rcases List.mem_append.1 hs with h1 | h1
          · exact secs_small HMl.out s h1
          · rcases List.mem_cons.1 h1 with rfl | h1
            · decide
            · exact HS.out s h1
        clear hown4 hg5 b4 hl4 hown5
        go_wp2_with fail
        refine (dRow_any A5 (n0 + 1 + n1) c5 _ _ hl5 (by omega) HZ.out (HT.out _ b5)).mono ?_
        rintro e v6 ⟨h6, hb6⟩
        obtain ⟨A6, c6, rfl, hl6, _⟩ := row_of h6 HR.out
        have b6 := below_then b5 hb6
        rw [HLn.out] at hl6 ⊢
        clear h6 hb6 b5 hl5 HZ HR
        go_wp2_with fail
        refine (dLasts_any a0 n0 c0 l _ (HK.out _ b6) (by unfold maxLen; omega)).mono ?_
        rintro e v7 ⟨x7, rfl, own7, hb7⟩
        obtain ⟨A7, c7, e7, _, _⟩ := ow_shape own7
        subst e7
        have hl7 := Lies.of_own own7
        have hl6' := hl6.below hb7
        have b7 := below_then b6 hb7
        clear own7 hb7 b6 hl6
        go_wp2_with fail
        refine (refDSame_any A6 a0 n0 c6 n0 c0 l l _ hl6' (HK.out _ b7) (by unfold maxLen; omega)).mono ?_
        rintro e v8 ⟨rfl, hb8⟩
        rw [show sameC l l = true from decide_eq_true rfl]
        have hl8 := (hl7.below hb8).more hb8.size
        have b8 := below_then b7 hb8
        clear hb8 b7 hl7 hl6'
        go_wp2_with fail
        go_loopw [14] (fun v wr => ∃ i : Nat, i ≤ n0 ∧ v = .int .i64 i ∧ Lies wr wr.heap.size A7 16 ((lastsV l).map (Value.int .i64)) ∧ Below w.heap.size w wr) (fun v _ => n0 - (intOf v).toNat)
        case atStart => exact ⟨0, Nat.zero_le _, rfl, hl8, b8⟩
        case round =>
          clear hl8 b8
          obtain ⟨i, hi, rfl, hl, hb⟩ := hrel
          have hsz := hb.size
          by_cases hlt2 : i < n0
          · have hil : i < l.length := by rw [HLn.out]; exact hlt2
            obtain ⟨⟨ck, cb, cs, cd, ca, cl, ch, cm⟩, hx⟩ : ∃ x, l[i] = x := ⟨_, rfl⟩
            obtain ⟨ad, e1, had, d0, d1, d2, d3, d4, d5, d6, d7⟩ := cmd_at (HK.out _ hb) hlt2 hil hx
            subst e1
            have hmem : (⟨ck, cb, cs, cd, ca, cl, ch, cm⟩ : CmdM) ∈ l := hx ▸ List.getElem_mem hil
            have hmy := HMl.out _ hmem
            have hkey : cKey cb = true := (cMay_iff.1 hmy).1
            obtain ⟨q, hq, hqe, hqm⟩ := cOf_yes hkey
            have hge : cb ≤ (lastsV l).getD (cb % 16).toNat 0 := lasts_ge hmem hkey
            rw [hqm] at hge
            obtain ⟨p7, u7, e7, hp7, hu7, hc7⟩ := hl.at_ (k := q) hq
            subst e7
            have hu8 : u7 = .int .i64 ((lastsV l).getD q 0) := by
              have hql : q < (lastsV l).length := by rw [lasts_length]; exact hq
              rw [List.getElem?_map, List.getElem?_eq_getElem hql] at hu7
              rw [List.getD_eq_getElem?_getD, List.getElem?_eq_getElem hql]
              simpa using hu7.symm
            subst hu8
            generalize (lastsV l).getD q 0 = o at *
            have zz : decide (o < cb) = false := decide_eq_false (by omega)
            have hq0 : (0 : Int) ≤ (q : Int) := by omega
            have hq1 : (q : Int) < 16 := by omega
            have hi1 : (i : Int) < (n0 : Int) := by omega
            clear hx hil d0 d2 d3 d4 d5 d6 d7 hu7 hge hmy hkey hqm
            have C : ∀ W, Calls Tryd.prog 21 #[.int .i64 cb] W fun e w' => e = .returned (.int .i64 (q : Int)) ∧ w' = W := fun W => by
              have := refCOf_any cb W
              rw [hqe] at this
              exact this.mono fun _ _ h => ⟨h.1, h.2.symm⟩
            clear hqe
            have b25 : Below w.heap.size w wr := hb
            go_upto_region 25 with fail
            go_quiet ((go_at_call 21; exact Calls.quiet_of_same (C _)))
            go_wp2_with fail
            go_roundw
            case rel => exact ⟨i + 1, by omega, by go_num, hl, hb.trans (drewN_below _ _ _)⟩
            case measure => simp [intOf]; omega
          · go_wp2_with fail
            refine (HW.out _ hb).mono ?_
            rintro e u2 ⟨rfl, hb2⟩
            have b2 := below_then hb hb2
            clear hb2 hb
            go_wp2_with fail
            go_ret
            exact ⟨rfl, b2⟩
  · by_cases q0 : 60 < n0
    · have z0 : decide ((60 : Int) < (n0 : Int)) = true := decide_eq_true (by omega)
      clear g HL HK HS HLn
      go_wp2_with fail
      refine (HW.out _ b0).mono ?_
      rintro e u2 ⟨rfl, hb2⟩
      go_wp2_with fail
      go_ret
      exact ⟨rfl, hb2⟩
    · have z0 : decide ((60 : Int) < (n0 : Int)) = false := decide_eq_false (by omega)
      by_cases q1 : 60 < n1
      · have z1 : decide ((60 : Int) < (n1 : Int)) = true := decide_eq_true (by omega)
        clear g HL HK HS HLn
        go_wp2_with fail
        refine (HW.out _ b0).mono ?_
        rintro e u2 ⟨rfl, hb2⟩
        go_wp2_with fail
        go_ret
        exact ⟨rfl, hb2⟩
      · have z1 : decide ((60 : Int) < (n1 : Int)) = false := decide_eq_false (by omega)
        exact absurd ⟨by omega, by omega⟩ g

/-! ### THE ROW's STEP -/
set_option maxRecDepth 100000 in
theorem lifted (os : Os) (started : os.Started) (H : Type) (enc : TypeId × Value → H) :
    ReturnsInHanded {} Tryd.checked os 6 .any (fun w args => (Rows.decidedFrontSpec.pre enc Tryd.prog Tryd.f6 [] false w args ∧ laidMetH Tryd.prog laidL w) ∧ sizedMet enc Tryd.prog Tryd.f6 (OpenSpec.ofChange Rows.decidedFrontSpec) false w args) (Rows.decidedFrontSpec.post enc Tryd.prog Tryd.f6 false true false false) := by
  refine returnsInHanded_of_change_and (C := Tryd.checked) (X := fun w _ => laidMetH Tryd.prog laidL w) (fun _ _ _ hh h => h.of_heap hh) own started (by kernel_rfl) Tryd.func6
    (ChangeSpec.witness_shaped (enc := enc) (C := Tryd.checked) (os := os) (X := fun w _ => laidMetH Tryd.prog laidL w) false (World.doorLaid Tryd.prog 14 os) #[.slice none 0 0, .slice none 0 0] 8 rfl (World.shaped_of_RefB (by kernel_rfl) (by kernel_rfl)) (by kernel_rfl) (by kernel_rfl) (by kernel_rfl) (door_met os _)) ?_
  intro W base args ds gs before hval0 hW _ _ hL _
  have hval : ∀ (j : Nat) t v, Tryd.f6.params[j]? = some t → args[j]? = some v → Value.okWide Tryd.prog W .any base t v := hval0
  have hW' := hW
  obtain ⟨p, q, hA0, hV, rfl, hfz, hnd⟩ := hW
  have hA : DataW.TrodAll enc Tryd.prog W 0 (fun _ => true) true Tryd.f6.params.toList args.toList ds p := hA0
  rw [Tryd.params6] at hA hval
  obtain ⟨v0, vs0, d0, ds0, p0, q0, hargs, rfl, rfl, h0, r0⟩ := trodAll_cons hA
  obtain ⟨v1, vs1, d1, ds1, p1, q1, rfl, rfl, rfl, h1, r1⟩ := trodAll_cons r0
  obtain ⟨rfl, rfl, rfl⟩ := trodAll_nil r1
  obtain rfl : args = #[v0, v1] := by cases args; simp_all
  obtain ⟨rfl, rfl⟩ := trodVars_none hV
  have k0 := h0
  have lt0 : ∀ x ∈ p0, x.block < W.heap.size := by obtain ⟨m, hm⟩ := k0; exact DataW.trod_lt m _ _ _ hm
  obtain ⟨a0, len0, cap0, L0, rfl, w0⟩ := open_cmds (hval 0 23 v0 rfl rfl) h0
  have k1 := h1
  have lt1 : ∀ x ∈ p1, x.block < W.heap.size := by obtain ⟨m, hm⟩ := k1; exact DataW.trod_lt m _ _ _ hm
  obtain ⟨a1, len1, cap1, rfl⟩ := okWide_slice Tryd.underlying22 (hval 1 22 v1 rfl rfl)
  obtain ⟨z1, w1⟩ : ∃ zs, IsStrs W a1 len1 cap1 zs := by
    obtain ⟨fuel, hf⟩ := h1
    rcases open_strings Tryd.underlying22 Tryd.underlying9 (by kernel_rfl) hf with ⟨hcs, _⟩ | ⟨x, l, c, zs, hcs, _, hl, hm, hz, _, hcell, hwz⟩
    · simp [Value.cells] at hcs
      obtain ⟨rfl, rfl, rfl⟩ := hcs
      exact ⟨[], .inl ⟨rfl, rfl, rfl, rfl⟩⟩
    · simp [Value.cells] at hcs
      obtain ⟨rfl, rfl, rfl⟩ := hcs
      exact ⟨zs, .inr ⟨_, rfl, hl, hm, by simpa using hz, hcell, hwz⟩⟩
  clear hA0 hval0
  refine (walk a0 len0 cap0 L0 a1 len1 cap1 z1 W w0 w1 (met_of_laid hL)).mono fun e W' ⟨he, bel⟩ => ?_
  subst he
  exact ⟨_, rfl, _, _, _, [], _, [], hW', trodAll_mk1 (shut_bool Tryd.underlying4 _), (trodAll_cons_mk (Below.trod laidOut (by kernel_rfl) (of_decide_eq_true (by kernel_rfl)) k0 bel lt0) (trodAll_cons_mk (Below.trod laidOut (by kernel_rfl) (of_decide_eq_true (by kernel_rfl)) k1 bel lt1) trodAll_mk0)), rfl, bel.frame _, fun h => by cases h⟩

theorem over : Rows.decidedFrontRow.holds Tryd.pinned (OpenSpec.ofChange Rows.decidedFrontSpec) :=
  OpenClaim.holds_of_wide 6 Tryd.f6 rfl rfl rfl rfl rfl rfl rfl ⟨rfl, rfl, rfl, rfl, rfl⟩ rfl rfl rfl rfl rfl (by kernel_rfl) Tryd.func6 (by kernel_rfl)
    (of_decide_eq_true (by kernel_rfl)) (by unfold Func.isWrapper; first | (rw [if_pos (by decide +kernel)]; kernel_rfl) | (rw [if_neg (by decide +kernel)]; exact ⟨rfl, rfl⟩))
    (fun os started H enc _ => lifted os started H enc)

/-- The statement. -/
theorem proved : Rows.DecidedFrontSaid := over
#print axioms proved

/-- THE TIED CARD. -/
theorem card : Rows.DecidedFrontCardSaid :=
  Claim7.holds_tied_plain_at .later [] [.data] true (true, "c35ad92adf93973a01dae9bd60b3c8860a819458c75ec0b51465b5a62d52920c") false
    proved (fun _ h => by cases h) (by kernel_rfl) (fun _ h => by cases h) decidedFront_row_tie rfl ⟨rfl, rfl⟩ (by kernel_rfl) rfl
    (fun f fn hf hfn => by
      obtain rfl : f = 6 := Option.some.inj ((show Tryd.prog.funcNamed "breakwater/breakwaterlaw12.DecidedFront" = some 6 by kernel_rfl).symm.trans hf) |>.symm
      obtain rfl : fn = Tryd.f6 := (Option.some.inj (Tryd.func6.symm.trans hfn)).symm
      exact ⟨by kernel_rfl, fun j t ht => by
        rw [Tryd.params6] at ht
        have hm : t ∈ [23, 22] := by simpa using Array.mem_of_getElem? ht
        have hall : ([23, 22].all fun u => !Tryd.prog.wantsStandIn u) = true := by kernel_rfl
        exact (show Tryd.prog.wantsStandIn t = false by simpa using List.all_eq_true.1 hall t hm)⟩)
    (by kernel_rfl)
#print axioms card
end Go.Proofs.YtjdacpnfgpdjhaaDoor.decidedFront
