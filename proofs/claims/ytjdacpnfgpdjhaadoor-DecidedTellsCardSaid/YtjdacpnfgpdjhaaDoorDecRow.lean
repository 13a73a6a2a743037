/-
  The document's rows of decided sectors: by contract.
-/
import Derived.Test.YtjdacpnfgpdjhaaDoorJoinCmdSame
import Derived.Test.YtjdacpnfgpdjhaaDoorCmdRow
import Derived.Test.YtjdacpnfgpdjhaaDoorOwnRows
namespace Go.Proofs.YtjdacpnfgpdjhaaDoor
open Go.RowKit
set_option linter.unusedVariables false
set_option linter.unusedSimpArgs false

theorem tinfoCmd : (Tryd.prog.info? 32).map (fun i => (i.zero, i.size, i.bytes)) = some (some (.agg #[.int .i8 0, .int .i64 0, .int .i64 0, .int .i64 0, .int .i64 0, .int .i64 0, .int .i64 0, .int .i8 0]), 8, 64) := by kernel_rfl
theorem cmdV_append (l m : List CmdM) : cmdV (l ++ m) = cmdV l ++ cmdV m := by simp [cmdV]
theorem cmdV_one (l : List CmdM) : ∀ u ∈ cmdV l, u.oneCell' = true := fun u hu => by
  obtain ⟨c, _, hc⟩ := List.mem_flatMap.1 hu
  simp [cmdA] at hc
  rcases hc with rfl | rfl | rfl | rfl | rfl | rfl | rfl | rfl <;> rfl
theorem rowK_length {l : List ByteArray} {k : Nat} (hk : k ≤ l.length) : (rowK l k).length = k := by
  unfold rowK
  rw [List.length_map, List.length_take]
  omega
theorem cmd_cell_new (w : World) (c : CmdM) (T : TypeId) : ∀ j u, (cmdV [c])[j]? = some u → (w.alloc (.cells (cmdA c) T)).cell? ((⟨w.heap.size, 0, none⟩ : Addr).add j) = some u := by
  intro j u hj
  have hp := Blk.new w (cmdA c) T
  have : (⟨w.heap.size, 0, none⟩ : Addr).add j = ⟨w.heap.size, j, none⟩ := by
    unfold Addr.add
    split
    · rename_i h; subst h; rfl
    · simp
  rw [this]
  refine hp.cell j u ?_
  have e : cmdV [c] = (cmdA c).toList := by simp [cmdV]
  rw [e] at hj
  simpa using hj
/-- What a row comes to. -/
def RowDPost (l : List ByteArray) (B : Nat) (e : Ending) (w' : World) : Prop :=
  (rowO l = none ∧ e = .returned (.tuple #[.slice none 0 0, .int .i64 50])) ∨ (∃ m v, rowO l = some m ∧ e = .returned (.tuple #[v, .int .i64 0]) ∧ w'.ownsRow B 32 8 v m.length (cmdV m))

set_option maxRecDepth 100000 in
set_option maxHeartbeats 2000000 in
theorem refDRow_any (A : Option Addr) (n c : Nat) (l : List ByteArray) (w : World) (hA : Lies w w.heap.size A n (l.map Value.string)) (hn : n ≤ 1099511627776) (hsz : ∀ s ∈ l, s.size ≤ maxLen) :
    Calls Tryd.prog 13 #[.slice A n c] w fun e w' => RowDPost l w.heap.size e w' ∧ Below w.heap.size w w' := by
  have HL : Hid (l.length = n) := by show _ = _; have := hA.1; simpa using this
  have HA : Hid (∀ W, Below w.heap.size w W → Lies W w.heap.size A n (l.map Value.string)) := fun W h => hA.below h
  have HZ := Lib.hid hsz
  obtain ⟨i0, hi0, hz0, hz1, hz2⟩ := info_parts tinfoCmd
  clear hA hsz
  go_enter Tryd.func13, Tryd.ntmps13
  go_wp2_with fail
  go_loopw [4, 5] (fun u i wr => ∃ k : Nat, k ≤ n ∧ i = .int .i64 k ∧ wr.ownsRow w.heap.size 32 8 u k (cmdV (rowK l k)) ∧ Hid (∀ (j : Nat) (hj : j < l.length), j < k → dRd l[j] = true) ∧ Below w.heap.size w wr) (fun _ i _ => n - (intOf i).toNat)
  case atStart => exact ⟨0, Nat.zero_le _, rfl, World.ownsRow_nil _ _ _ _, fun j _ hj => by omega, Below.refl _ _⟩
  case round =>
    obtain ⟨k, hk, rfl, own, HD, hb⟩ := hrel
    have hsz := hb.size
    by_cases hlt : k < n
    · have hkl : k < l.length := by rw [HL.out]; exact hlt
      obtain ⟨ad, u1, e1, had, hu1, hcell⟩ := (HA.out _ hb).at_ hlt
      subst e1
      obtain ⟨s, hs⟩ : ∃ s, l[k] = s := ⟨_, rfl⟩
      have HX : Hid (∃ h : k < l.length, l[k] = s) := ⟨hkl, hs⟩
      have hu2 : u1 = .string s := by
        rw [List.getElem?_map, List.getElem?_eq_getElem hkl, hs] at hu1
        simpa using hu1.symm
      subst hu2
      have hsM : s.size ≤ maxLen := HZ.out s (hs ▸ List.getElem_mem hkl)
      have hlr : ad.block < wr.heap.size := by omega
      clear hu1 hs hkl
      go_wp2_with fail
      refine (refDRead_any s _ hsM).mono ?_
      rintro e w2 ⟨rfl, hb2⟩
      have own2 := ow_up own hb2
      have b2 := below_then hb hb2
      clear own hb2 hcell hsM hlr hb
      obtain ⟨⟨ck, cb, cs, cd, ca, cl, ch, cm⟩, hc⟩ : ∃ c, Hid (drC s = c) := ⟨_, rfl⟩
      obtain ⟨t, htx⟩ : ∃ t, Hid (drS s = t) := ⟨_, rfl⟩
      rw [hc.out, htx.out, show cmdA ⟨ck, cb, cs, cd, ca, cl, ch, cm⟩ = #[.int .i8 ck, .int .i64 cb, .int .i64 cs, .int .i64 cd, .int .i64 ca, .int .i64 cl, .int .i64 ch, .int .i8 cm] from rfl]
      have bk : Below w2.heap.size w2 (w2.alloc (.cells #[.int .i8 ck, .int .i64 cb, .int .i64 cs, .int .i64 cd, .int .i64 ca, .int .i64 cl, .int .i64 ch, .int .i8 cm] 32)) := (Below.refl _ _).alloc (Nat.le_refl _) _
      have own3 := ow_up own2 bk
      have b3 := below_then b2 bk
      by_cases he : s = ⟨#[]⟩
      · have HV : Hid (rowO l = some (rowK l k)) := rowO_stop HX.out.1 (fun j hj hjk => HD.out j hj hjk) (HX.out.2.trans he)
        have HV2 := Lib.hid (dr_none he)
        rw [HV2.out.2.2.1, HV2.out.2.2.2]
        obtain ⟨A5, c5, e5, _, _⟩ := ow_shape own3
        subst e5
        have HO : Hid (RowDPost l w.heap.size (.returned (.tuple #[.slice A5 k c5, .int .i64 0])) (w2.alloc (.cells #[.int .i8 ck, .int .i64 cb, .int .i64 cs, .int .i64 cd, .int .i64 ca, .int .i64 cl, .int .i64 ch, .int .i8 cm] 32))) := .inr ⟨_, _, HV.out, rfl, by rw [rowK_length (by have := HX.out.1; omega)]; exact own3⟩
        clear he own2 own3 b2 bk
        go_wp2_with fail
        go_ret2
        exact ⟨HO.out, b3⟩
      · cases hd : dRd s with
        | false =>
          have HV : Hid (rowO l = none) := rowO_bad HX.out.1 (fun j hj hjk => HD.out j hj hjk) (by rw [HX.out.2]; exact he) (by rw [HX.out.2]; exact hd)
          have HV2 := Lib.hid (dr_bad hd he)
          rw [HV2.out.2.2]
          clear he hd own2 own3 b2 bk
          go_wp2_with fail
          go_ret2
          exact ⟨.inl ⟨HV.out, rfl⟩, b3⟩
        | true =>
          have HV2 := Lib.hid (dr_yes hd)
          have HD' : Hid (∀ (j : Nat) (hj : j < l.length), j < k + 1 → dRd l[j] = true) := fun j hj hjk => by
            by_cases e : j = k
            · subst e
              rw [HX.out.2]; exact hd
            · exact HD.out j hj (by omega)
          have HK : Hid (rowK l (k + 1) = rowK l k ++ [⟨ck, cb, cs, cd, ca, cl, ch, cm⟩]) := by
            show _ = _
            rw [rowK_succ HX.out.1, HX.out.2, ← HV2.out.1, hc.out]
          rw [HV2.out.2.2]
          have pk := Blk.new w2 #[.int .i8 ck, .int .i64 cb, .int .i64 cs, .int .i64 cd, .int .i64 ca, .int .i64 cl, .int .i64 ch, .int .i8 cm] 32
          have hs2 := b2.size
          have bk2 : Below w2.heap.size w2 ((w2.alloc (.cells #[.int .i8 ck, .int .i64 cb, .int .i64 cs, .int .i64 cd, .int .i64 ca, .int .i64 cl, .int .i64 ch, .int .i8 cm] 32)).alloc (.cells #[.int .i8 ck, .int .i64 cb, .int .i64 cs, .int .i64 cd, .int .i64 ca, .int .i64 cl, .int .i64 ch, .int .i8 cm] 32)) := ((Below.refl _ _).alloc (Nat.le_refl _) _).alloc (by simp) _
          have hnew := cmd_cell_new (w2.alloc (.cells #[.int .i8 ck, .int .i64 cb, .int .i64 cs, .int .i64 cd, .int .i64 ca, .int .i64 cl, .int .i64 ch, .int .i8 cm] 32)) ⟨ck, cb, cs, cd, ca, cl, ch, cm⟩ 32
          rw [show cmdA ⟨ck, cb, cs, cd, ca, cl, ch, cm⟩ = #[.int .i8 ck, .int .i64 cb, .int .i64 cs, .int .i64 cd, .int .i64 ca, .int .i64 cl, .int .i64 ch, .int .i8 cm] from rfl, show (w2.alloc (.cells #[.int .i8 ck, .int .i64 cb, .int .i64 cs, .int .i64 cd, .int .i64 ca, .int .i64 cl, .int .i64 ch, .int .i8 cm] 32)).heap.size = w2.heap.size + 1 by simp] at hnew
          have own4 := ow_up own2 bk2
          clear he hd own3 bk
          go_wp2_with (at_builtin; refine wpList_append_own _ rfl _ _ 23 rfl w.heap.size 32 i0 _ 8 64 Tryd.underlying23 hi0 hz0 hz1 hz2 rfl (by omega) _ _ _ rfl own4 ⟨w2.heap.size + 1, 0, none⟩ 1 1 (cmdV [⟨ck, cb, cs, cd, ca, cl, ch, cm⟩]) rfl rfl hnew (cmdV_one _) ?d1 ?d2 ?d3 ?_)
          case d1 => unfold maxLen; omega
          case d2 => omega
          case d3 => first | omega | (simp; omega)
          intro v4 w4 hown4 hgrow _
          have hown4 : w4.ownsRow w.heap.size 32 8 v4 (k + 1) (cmdV (rowK l (k + 1))) := by rw [HK.out, cmdV_append]; exact hown4
          have b4 : Below w.heap.size w w4 := (below_then b2 bk2).grown hgrow (by have := (below_then b2 bk2).size; omega) (fun j hj => (own4.lt j hj).1)
          clear own2 own4 b2 b3 bk2 hgrow hnew pk
          go_wp2_with fail
          go_roundw
          case rel => exact ⟨k + 1, by omega, by go_num, hown4, HD', b4⟩
          case measure => simp [intOf]; omega
    · have hkn : k = n := by omega
      have HV : Hid (rowO l = some (rowK l l.length)) := rowO_all fun j hj => HD.out j hj (by have := HL.out; omega)
      obtain ⟨A5, c5, e5, _, _⟩ := ow_shape own
      subst e5
      have HO : Hid (RowDPost l w.heap.size (.returned (.tuple #[.slice A5 k c5, .int .i64 0])) wr) := .inr ⟨_, _, HV.out, rfl, by rw [rowK_length (Nat.le_refl _), HL.out, ← hkn]; exact own⟩
      clear hlt own
      go_wp2_with fail
      go_ret2
      exact ⟨HO.out, hb⟩

end Go.Proofs.YtjdacpnfgpdjhaaDoor
