/-
  The statement DeviceReads: a node reads what it put, or forced, others what stands; flushed all stands; what was forced is not in a cache any more: for every row of sectors, of places and of bools the call answers true and leaves its arguments as they were. No conditions.
-/
import Derived.Test.YteighdlhonegpaaDevWakes
import Derived.Test.YteighdlhonegpaaDevSame
import Derived.Test.YteighdlhonegpaaOpenRows
import Derived.Test.YteighdlhonegpaaDevSmall
import Derived.ProofKit
import Derived.Deep.DeepCutAuto
import Derived.Deep.AppendLies
import Derived.ShutString
import Derived.ChangeOld
import Derived.Below
namespace Go.Proofs.Yteighdlhonegpaa.deviceReads
open Go.ChangeShapes Go.WideShapes Go.ChangeAt Go.RowKit
open Go.ChangeMaps (open_string shut_string)
set_option linter.unusedVariables false
set_option linter.unusedSimpArgs false

theorem own : ownKnob Try.prog.godebug = none := by kernel_rfl
theorem laidOut : laidOutB Try.prog = true := by kernel_rfl

/-- A variable whose device's sectors lie in none of two blocks. -/
def VarN (w : World) (B b : Nat) (D : Dev) (g1 g2 : Nat) : Prop := ∃ vS vC vK vF f, OwnD w B vS vC vK vF f D ∧ Blk w b #[vS, vC, vK, .int .i64 D.n, vF] 29 ∧ vS.ownBlock ≠ some g1 ∧ vS.ownBlock ≠ some g2
section
variable {w w' : World} {B b g1 g2 : Nat} {D E : Dev}
theorem VarN.at (h : VarN w B b D g1 g2) : VarAt w B b D := by
  obtain ⟨vS, vC, vK, vF, f, h1, h2, _, _⟩ := h
  exact ⟨vS, vC, vK, vF, f, h1, h2⟩
theorem VarN.up (h : VarN w B b D g1 g2) (hb : Below w.heap.size w w') : VarN w' B b D g1 g2 := by
  obtain ⟨vS, vC, vK, vF, f, h1, h2, h3, h4⟩ := h
  exact ⟨vS, vC, vK, vF, f, h1.up hb, h2.below hb h2.lt, h3, h4⟩
theorem VarN.lt (h : VarN w B b D g1 g2) : b < w.heap.size := h.at.lt
theorem VarN.text {g n c k : Nat} {s : ByteArray} {l : List ByteArray} (h : VarN w B b D g1 g2) (hr : w.ownsRow B 9 1 (.slice (some ⟨g, 0, none⟩) n c) n (strV l)) (hg : g = g1 ∨ g = g2) : VarN (w.setCell ⟨g, k, none⟩ (.string s)) B b D g1 g2 := by
  obtain ⟨vS, vC, vK, vF, f, h1, h2, h3, h4⟩ := h
  have hS : vS.ownBlock ≠ some g := by rcases hg with rfl | rfl <;> assumption
  have hgb : (Value.slice (some ⟨g, 0, none⟩) n c).ownBlock = some g := rfl
  have key : ∀ {e : TypeId} {size : Nat} {v : Value} {m : Nat} {xs : List Value}, w.ownsRow B e size v m xs → e ≠ 9 → (w.setCell ⟨g, k, none⟩ (.string s)).ownsRow B e size v m xs := by
    intro e size v m xs hv hne
    refine ownsRow_setCell_other hv (fun hb => ?_) _
    rcases own_apart hv hr hne hgb with h5 | h5
    · rw [h5] at hb; cases hb
    · exact h5 hb
  exact ⟨vS, vC, vK, vF, f, ⟨ownsRow_setCell_other h1.s hS _, key h1.c (by decide), key h1.k (by decide), key h1.ff (by decide), fun i hi => key (h1.cs i hi) (by decide), h1.kf, h1.cc⟩, h2.other (own_blk hr h2 (by decide) hgb) _ _, h3, h4⟩
theorem VarN.next {W : World} {vS vC vK vF : Value} {f : Nat → Value} (h : VarN w B b D g1 g2) (hO : OwnD W w.heap.size vS vC vK vF f E) (hb : Below w.heap.size w W) (hB : B ≤ w.heap.size) (h1 : g1 < w.heap.size) (h2 : g2 < w.heap.size) : VarN (into5 W b vS vC vK E.n vF) B b E g1 g2 := by
  obtain ⟨uS, uC, uK, uF, g, k1, k2, _, _⟩ := h
  have k := k2.below hb k2.lt
  refine ⟨vS, vC, vK, vF, f, (into5_other hO k (by decide) (by decide) (by decide) (by decide) _ _ _ _ _).less hB, into5_self k rfl _ _ _ _ _, fun e => ?_, fun e => ?_⟩
  · have := (hO.s.lt _ e).1; omega
  · have := (hO.s.lt _ e).1; omega
theorem row_into {cs : Array Value} {g n c : Nat} {l : List ByteArray} (h : w.ownsRow B 9 1 (.slice (some ⟨g, 0, none⟩) n c) n (strV l)) (k : Blk w b cs 29) (vS vC vK : Value) (x : Int) (vF : Value) : (into5 w b vS vC vK x vF).ownsRow B 9 1 (.slice (some ⟨g, 0, none⟩) n c) n (strV l) := by
  have hne : (Value.slice (some ⟨g, 0, none⟩) n c).ownBlock ≠ some b := fun e => own_blk h k (by decide) e rfl
  exact ownsRow_setCell_other (ownsRow_setCell_other (ownsRow_setCell_other (ownsRow_setCell_other (ownsRow_setCell_other h hne _) hne _) hne _) hne _) hne _
end
theorem node_two {D : Dev} (h : D.K.length = 2) (i : Nat) (hi : i < 2) (a : ActM) : refE D (i : Int) a = actE D i a ∧ doD D (i : Int) a = actD D i a ∧ doS D (i : Int) a = actS D i a := by
  have hn : NodeOk D (i : Int) := ⟨by omega, by omega⟩
  refine ⟨?_, ?_, ?_⟩
  · unfold refE; rw [if_pos hn]; rfl
  · unfold doD; rw [if_pos hn]; rfl
  · unfold doS; rw [if_pos hn]; rfl
theorem bd_act (q : Int) (hq : -128 ≤ q ∧ q ≤ 127) (kk : Nat) (h : kk ≤ 1000) (t : ByteArray) : ActBd ⟨q, (kk : Int), t, 0⟩ := ⟨hq.1, hq.2, by show -9223372036854775808 ≤ (kk : Int); omega, by show (kk : Int) ≤ 9223372036854775807; omega, by show (-9223372036854775808 : Int) ≤ 0; omega, by show (0 : Int) ≤ 9223372036854775807; omega⟩
theorem VarN.one {w : World} {B b g1 g2 : Nat} {D : Dev} (h : VarN w B b D g1 g2) : VarN w B b D g1 g1 := by
  obtain ⟨vS, vC, vK, vF, f, h1, h2, h3, h4⟩ := h
  exact ⟨vS, vC, vK, vF, f, h1, h2, h3, h3⟩
theorem bool_at {w : World} {B n : Nat} {A : Option Addr} {l : List Bool} (h : Lies w B A n (l.map Value.bool)) {k : Nat} (hk : k < n) (hl : k < l.length) : ∃ ad : Addr, A = some ad ∧ ad.block < B ∧ w.cell? (ad.add k) = some (.bool (l[k])) := by
  obtain ⟨ad, e, hb, hc⟩ := h.2 (by omega)
  exact ⟨ad, e, hb, hc _ _ (by rw [List.getElem?_map, List.getElem?_eq_getElem hl]; rfl)⟩
theorem row_set {w : World} {B g n c : Nat} {l : List ByteArray} (h : w.ownsRow B 9 1 (.slice (some ⟨g, 0, none⟩) n c) n (strV l)) (k : Nat) (s : ByteArray) : (w.setCell ⟨g, k, none⟩ (.string s)).ownsRow B 9 1 (.slice (some ⟨g, 0, none⟩) n c) n (strV (l.set k s)) := by
  have := (h.stored k (.string s)).1
  rw [show strV (l.set k s) = (strV l).set k (.string s) by simp [strV]]
  exact this
theorem row_other {w : World} {B g g2 n c : Nat} {l : List ByteArray} (h : w.ownsRow B 9 1 (.slice (some ⟨g, 0, none⟩) n c) n (strV l)) (hne : g ≠ g2) (k : Nat) (s : ByteArray) : (w.setCell ⟨g2, k, none⟩ (.string s)).ownsRow B 9 1 (.slice (some ⟨g, 0, none⟩) n c) n (strV l) :=
  ownsRow_setCell_other h (by simp [Value.ownBlock]; exact hne) _
theorem row_at {w : World} {B g n c k : Nat} {l : List ByteArray} (h : w.ownsRow B 9 1 (.slice (some ⟨g, 0, none⟩) n c) n (strV l)) (hk : k < n) : w.cell? ⟨g, k, none⟩ = some (.string (l.getD k ⟨#[]⟩)) := by
  have hl : l.length = n := by have := h.1; simpa [strV] using this
  rw [h.cellAt k (by omega), strV, List.getElem?_map, List.getElem?_eq_getElem (by omega), List.getD, List.getElem?_eq_getElem (by omega)]
  rfl

/-- What a round leaves: a device in its variable, two rows of texts of the call's own. -/
structure St (w W : World) (b : Nat) (D : Dev) (mine stands : List ByteArray) (gM cM gT cT : Nat) (n0 n : Nat) : Prop where
  v : VarN W w.heap.size b D gM gT
  duo : Duo D mine stands n
  m : W.ownsRow w.heap.size 9 1 (.slice (some ⟨gM, 0, none⟩) n0 cM) n0 (strV mine)
  t : W.ownsRow w.heap.size 9 1 (.slice (some ⟨gT, 0, none⟩) n0 cT) n0 (strV stands)
  hb : Below w.heap.size w W
/-- What a flush leaves: n sectors are in the cache. -/
structure Fl (w W : World) (b : Nat) (D : Dev) (mine : List ByteArray) (gM cM : Nat) (n0 n : Nat) : Prop where
  v : VarN W w.heap.size b D gM gM
  duo : ∃ st, Duo D mine st n
  m : W.ownsRow w.heap.size 9 1 (.slice (some ⟨gM, 0, none⟩) n0 cM) n0 (strV mine)
  hb : Below w.heap.size w W
  len : (cacheOf D 0).length = n
  ml : D.S.length = n0
  dc : D.C.length = 2
theorem Fl.up {w W W' : World} {b : Nat} {D : Dev} {mine : List ByteArray} {gM cM n0 n : Nat} (h : Fl w W b D mine gM cM n0 n) (hb : Below W.heap.size W W') : Fl w W' b D mine gM cM n0 n :=
  ⟨h.v.up hb, h.duo, own_up h.m hb, h.hb.trans (hb.mono h.hb.size), h.len, h.ml, h.dc⟩
theorem St.ml {w W : World} {b : Nat} {D : Dev} {mine stands : List ByteArray} {gM cM gT cT n0 n : Nat} (h : St w W b D mine stands gM cM gT cT n0 n) : mine.length = n0 ∧ stands.length = n0 ∧ D.S.length = n0 := by
  have h1 : mine.length = n0 := by have := h.m.1; simpa [strV] using this
  have h2 : stands.length = n0 := by have := h.t.1; simpa [strV] using this
  exact ⟨h1, h2, by rw [← h.duo.m, h1]⟩
theorem lies_up' {w W : World} {A : Option Addr} {n : Nat} {xs : List Value} (h : Lies w w.heap.size A n xs) (hb : Below w.heap.size w W) : Lies W W.heap.size A n xs := (h.below hb).more hb.size
theorem St.up {w W W' : World} {b : Nat} {D : Dev} {mine stands : List ByteArray} {gM cM gT cT n0 n : Nat} (h : St w W b D mine stands gM cM gT cT n0 n) (hb : Below W.heap.size W W') : St w W' b D mine stands gM cM gT cT n0 n :=
  ⟨h.v.up hb, h.duo, own_up h.m hb, own_up h.t hb, h.hb.trans (hb.mono h.hb.size)⟩
/-- A place out of whatever number. -/
theorem place_of {x : Int} {n : Nat} (hn : 1 ≤ n) : ∃ k : Nat, (x.tmod (n : Int) + (n : Int)).tmod (n : Int) = (k : Int) ∧ k < n ∧ -(n : Int) < x.tmod (n : Int) ∧ x.tmod (n : Int) < (n : Int) := by
  have h1 := Int.tmod_lt_of_pos x (show (0 : Int) < (n : Int) by omega)
  have h2 : -(n : Int) < x.tmod (n : Int) := by
    have := Int.tmod_lt_of_pos (-x) (show (0 : Int) < (n : Int) by omega)
    rw [Int.neg_tmod] at this
    omega
  have h3 : 0 ≤ (x.tmod (n : Int) + (n : Int)).tmod (n : Int) := Int.tmod_nonneg _ (by omega)
  have h4 := Int.tmod_lt_of_pos (x.tmod (n : Int) + (n : Int)) (show (0 : Int) < (n : Int) by omega)
  obtain ⟨k, hk⟩ := Int.eq_ofNat_of_zero_le h3
  exact ⟨k, hk, by omega, h2, h1⟩
/-- The text of a round. -/
def txt (k : Nat) : ByteArray := strOfNums [97 + (k : Int) % 26, (k : Int)]
theorem txt_size (k : Nat) : (txt k).size ≤ 512 := by
  have : (txt k).size = 2 := rfl
  omega
theorem txt_conv {w : World} {q k c : Nat} (hk : k < 256) (h : Blk w q #[.int .u8 (97 + (k : Int) % 26), .int .u8 (k : Int)] 5) : (convert 49 9 (.slice (some ⟨q, 0, none⟩) 2 c)).run Try.prog w = .ok (.string (txt k)) w := by
  refine conv_lies (B := w.heap.size) (zs := [97 + (k : Int) % 26, (k : Int)]) 49 9 5 Try.underlying49 Try.underlying5 Try.underlying9 ⟨rfl, fun _ => ⟨_, rfl, h.lt, fun j u hj => ?_⟩⟩
  rw [Addr.add_lit, Nat.zero_add]
  exact h.cell j u (by simpa using hj)

set_option maxRecDepth 100000 in
set_option maxHeartbeats 8000000 in
theorem walk (a0 : Option Addr) (len0 cap0 : Nat) (z0 : List ByteArray) (a1 : Option Addr) (len1 cap1 : Nat) (z1 : List Int) (a2 : Option Addr) (len2 cap2 : Nat) (z2 : List Bool) (w : World) (w0 : IsStrs w a0 len0 cap0 z0) (w1 : IsRow .i64 w a1 len1 cap1 z1) (w2 : IsBools w a2 len2 cap2 z2) :
    Calls Try.prog 5 #[.slice a0 len0 cap0, .slice a1 len1 cap1, .slice a2 len2 cap2] w fun e w' => e = .returned (.bool true) ∧ Below w.heap.size w w' := by
  obtain ⟨hS, hSz, hSm, hSl⟩ := lies_of_strs w0
  obtain ⟨hL, hLz, hLm, hLl⟩ := lies_of_ints w1
  obtain ⟨hF, hFm, hFl⟩ := lies_of_bools w2
  generalize z0.take len0 = S at *
  generalize z1.take len1 = L at *
  generalize z2.take len2 = F at *
  clear w0 w1 w2
  have hwk := wakes_any w
  unfold maxLen at hSm hLm hFm
  by_cases h1 : 40 < len0
  · have d1 : decide ((40 : Int) < (len0 : Int)) = true := decide_eq_true (by omega)
    go_enter Try.func5, Try.ntmps5
    go_wp2_with fail
    refine hwk.mono ?_
    rintro e W ⟨rfl, hb⟩
    go_wp2_with fail
    go_ret
    exact ⟨rfl, hb⟩
  have d1 : decide ((40 : Int) < (len0 : Int)) = false := decide_eq_false (by omega)
  by_cases h2 : len0 = 0
  · have d2 : ((len0 : Int) == 0) = true := beq_yes (by omega)
    clear hS hSl h2 h1
    go_enter Try.func5, Try.ntmps5
    go_wp2_with fail
    refine hwk.mono ?_
    rintro e W ⟨rfl, hb⟩
    go_wp2_with fail
    go_ret
    exact ⟨rfl, hb⟩
  have d2 : ((len0 : Int) == 0) = false := beq_no (by omega)
  by_cases h3 : 60 < len1
  · have d3 : decide ((60 : Int) < (len1 : Int)) = true := decide_eq_true (by omega)
    clear h2
    go_enter Try.func5, Try.ntmps5
    go_wp2_with fail
    refine hwk.mono ?_
    rintro e W ⟨rfl, hb⟩
    go_wp2_with fail
    go_ret
    exact ⟨rfl, hb⟩
  have d3 : decide ((60 : Int) < (len1 : Int)) = false := decide_eq_false (by omega)
  have hc := devNew_any 2 a0 len0 cap0 S w hS hSl (by omega)
  by_cases hok' : ¬ ∀ s ∈ S, s.size ≤ 512
  · have hno : ¬ NewOk 2 S := fun h => hok' h.2.2.2
    have e1 : nwE 2 S = 2 := if_neg hno
    have e2 : nwD 2 S = noD := if_neg hno
    rw [e1, e2] at hc
    clear h2 hok' hno e1 e2
    go_enter Try.func5, Try.ntmps5
    go_wp2_with fail
    refine hc.mono ?_
    rintro e W0 ⟨uS, uC, uK, uF, f, rfl, hO, hb⟩
    obtain ⟨aS, cS, aC, cC, aK, cK, aF, cF, rfl, rfl, rfl, rfl⟩ := own_shapes hO
    have hbx := below_alloc W0 (.cells #[.slice aS noD.S.length cS, .slice aC noD.C.length cC, .slice aK noD.K.length cK, .int .i64 noD.n, .slice aF noD.F.length cF] 29)
    have hwk2 := wakes_any (W0.alloc (.cells #[.slice aS noD.S.length cS, .slice aC noD.C.length cC, .slice aK noD.K.length cK, .int .i64 noD.n, .slice aF noD.F.length cF] 29))
    go_wp2_with fail
    refine hwk2.mono ?_
    rintro e W ⟨rfl, hb2⟩
    go_wp2_with fail
    go_ret
    exact ⟨rfl, below_then (below_then hb hbx) hb2⟩
  have hok : ∀ s ∈ S, s.size ≤ 512 := Decidable.byContradiction hok'
  have hS1 : 1 ≤ S.length := by omega
  have hyes : NewOk 2 S := ⟨by omega, by omega, hS1, hok⟩
  have e1 : nwE 2 S = 0 := if_pos hyes
  have e2 : nwD 2 S = newD 2 S := if_pos hyes
  rw [e1, e2] at hc
  obtain ⟨q1, q2, q3⟩ := duo_start hS1 hok 0 ⟨#[]⟩ 0
  obtain ⟨D0, hD0⟩ : ∃ D, D = newD 2 S := ⟨_, rfl⟩
  obtain ⟨D1, hD1⟩ : ∃ D, D = doD D0 0 ⟨6, 0, ⟨#[]⟩, 0⟩ := ⟨_, rfl⟩
  obtain ⟨D2, hD2⟩ : ∃ D, D = doD D1 1 ⟨6, 0, ⟨#[]⟩, 0⟩ := ⟨_, rfl⟩
  have hm0 : MayD D0 := hD0 ▸ may_new (by omega) (by omega) hS1 hok
  have hm1 : MayD D1 := hD1 ▸ may_do hm0 _ _
  have hm2 : MayD D2 := hD2 ▸ may_do hm1 _ _
  have hDuo : Hid (Duo D2 S S 0) := by
    show Duo D2 S S 0
    rw [hD2, hD1, hD0]
    exact q3
  have r1 : refE D0 0 ⟨6, 0, ⟨#[]⟩, 0⟩ = 0 := by rw [hD0]; exact q1
  have r2 : refE D1 1 ⟨6, 0, ⟨#[]⟩, 0⟩ = 0 := by rw [hD1, hD0]; exact q2
  have hs0 : Small D0 1099511627776 := may_small hm0 (by rw [hD0]; show S.length ≤ _; omega)
  have hs1 : Small D1 1099511627776 := may_small hm1 (by rw [hD1, hD0]; show (doD (newD 2 S) 0 ⟨6, 0, ⟨#[]⟩, 0⟩).S.length ≤ _; rw [doD, if_pos ⟨by omega, by show (0 : Int) < ((List.replicate 2 (0 : Int)).length : Int); simp⟩, (like_act _ _ _).s]; show S.length ≤ _; omega)
  have HD2S : Hid (D2.S.length = len0) := by have := hDuo.out.m; show _ = _; rw [← hSl]; exact this.symm
  rw [← hD0] at hc
  clear e1 e2 hyes q1 q2 q3 d1 d2 d3
  have d1 : decide ((40 : Int) < (len0 : Int)) = false := decide_eq_false (by omega)
  have d2 : ((len0 : Int) == 0) = false := beq_no (by omega)
  have d3 : decide ((60 : Int) < (len1 : Int)) = false := decide_eq_false (by omega)
  have H1 := Lib.hid hD1
  have H2 := Lib.hid hD2
  clear hD0 hD1 hD2
  go_enter Try.func5, Try.ntmps5
  go_wp2_with fail
  refine hc.mono ?_
  rintro e W0 ⟨uS, uC, uK, uF, f, rfl, hO, hb⟩
  obtain ⟨aS, cS, aC, cC, aK, cK, aF, cF, rfl, rfl, rfl, rfl⟩ := own_shapes hO
  obtain ⟨X0, hX0⟩ : ∃ X, X = W0.alloc (.cells #[.slice aS D0.S.length cS, .slice aC D0.C.length cC, .slice aK D0.K.length cK, .int .i64 D0.n, .slice aF D0.F.length cF] 29) := ⟨_, rfl⟩
  have HV0 := Lib.hid (VarAt.less (B' := w.heap.size) (hX0 ▸ var_new hO) (Nat.le_refl _))
  have hbx : Below W0.heap.size W0 X0 := hX0 ▸ below_alloc W0 _
  have HB0 := Lib.hid (below_then hb hbx)
  have HDV0 := Lib.hid ((hO.up hbx).dev)
  have HBL := Lib.hid hb.size
  clear hc hO hb hbx
  go_wp2_with fail
  rw [← hX0]
  clear hX0
  have hc := devDo_any _ D0 0 ⟨6, 0, ⟨#[]⟩, 0⟩ X0 HDV0.out hm0 hs0 ⟨by decide, by decide, by decide, by decide, by decide, by decide⟩
  rw [← H1.out, r1] at hc
  generalize doS D0 0 ⟨6, 0, ⟨#[]⟩, 0⟩ = g1 at hc
  refine hc.mono ?_
  rintro e W1 ⟨uS, uC, uK, uF, f, rfl, hO, hb⟩
  obtain ⟨aS, cS, aC, cC, aK, cK, aF, cF, rfl, rfl, rfl, rfl⟩ := own_shapes hO
  obtain ⟨HF, hv, cs, kb⟩ := HV0.out.next hO hb HB0.out.size
  obtain ⟨X1, hX1⟩ : ∃ X, X = into5 W1 W0.heap.size (.slice aS D1.S.length cS) (.slice aC D1.C.length cC) (.slice aK D1.K.length cK) D1.n (.slice aF D1.F.length cF) := ⟨_, rfl⟩
  have HV1 := Lib.hid hv
  rw [← hX1] at HV1
  have HDV1 := Lib.hid (into5_other hO kb (by decide) (by decide) (by decide) (by decide) (.slice aS D1.S.length cS) (.slice aC D1.C.length cC) (.slice aK D1.K.length cK) D1.n (.slice aF D1.F.length cF)).dev
  rw [← hX1] at HDV1
  have HB1 := Lib.hid (into5_below (HB0.out.trans (hb.mono HB0.out.size)) HBL.out (.slice aS D1.S.length cS) (.slice aC D1.C.length cC) (.slice aK D1.K.length cK) D1.n (.slice aF D1.F.length cF))
  rw [← hX1] at HB1
  have hXu := hX1
  unfold into5 at hXu
  obtain ⟨⟨u0, x0⟩, ⟨u1, x1⟩, ⟨u2, x2⟩, ⟨u3, x3⟩, ⟨u4, x4⟩, f0, f1, f2, f3, f4⟩ := HF
  clear hO hb hv kb HV0 HB0 HDV0 hc hX1
  go_wp2_with fail
  rw [← hXu]
  clear hXu x0 x1 x2 x3 x4 f0 f1 f2 f3 f4
  have hc := devDo_any _ D1 1 ⟨6, 0, ⟨#[]⟩, 0⟩ X1 HDV1.out hm1 hs1 ⟨by decide, by decide, by decide, by decide, by decide, by decide⟩
  rw [← H2.out, r2] at hc
  generalize doS D1 1 ⟨6, 0, ⟨#[]⟩, 0⟩ = g2 at hc
  refine hc.mono ?_
  rintro e W2 ⟨uS, uC, uK, uF, f, rfl, hO, hb⟩
  obtain ⟨aS, cS, aC, cC, aK, cK, aF, cF, rfl, rfl, rfl, rfl⟩ := own_shapes hO
  obtain ⟨HF, hv, cs, kb⟩ := HV1.out.next hO hb HB1.out.size
  obtain ⟨X2, hX2⟩ : ∃ X, X = into5 W2 W0.heap.size (.slice aS D2.S.length cS) (.slice aC D2.C.length cC) (.slice aK D2.K.length cK) D2.n (.slice aF D2.F.length cF) := ⟨_, rfl⟩
  have HV2 := Lib.hid hv
  rw [← hX2] at HV2
  have HDV2 := Lib.hid (into5_other hO kb (by decide) (by decide) (by decide) (by decide) (.slice aS D2.S.length cS) (.slice aC D2.C.length cC) (.slice aK D2.K.length cK) D2.n (.slice aF D2.F.length cF)).dev
  rw [← hX2] at HDV2
  have HB2 := Lib.hid (into5_below (HB1.out.trans (hb.mono HB1.out.size)) HBL.out (.slice aS D2.S.length cS) (.slice aC D2.C.length cC) (.slice aK D2.K.length cK) D2.n (.slice aF D2.F.length cF))
  rw [← hX2] at HB2
  have hXu := hX2
  unfold into5 at hXu
  obtain ⟨⟨u0, x0⟩, ⟨u1, x1⟩, ⟨u2, x2⟩, ⟨u3, x3⟩, ⟨u4, x4⟩, f0, f1, f2, f3, f4⟩ := HF
  clear hO hb hv kb HV1 HB1 HDV1 hc hX2
  go_upto_region 10 with (fail)
  rw [← hXu]
  clear hXu x0 x1 x2 x3 x4 f0 f1 f2 f3 f4
  -- two copies of the sectors
  obtain ⟨i0, hi, hz0, hz1, hz2⟩ := info_parts infoString
  obtain ⟨Y0, hY0⟩ : ∃ Y, Y = X2.alloc (.cells #[] 9) := ⟨_, rfl⟩
  have hbY : Below X2.heap.size X2 Y0 := hY0 ▸ below_alloc X2 _
  have hSA : Lies Y0 Y0.heap.size a0 len0 (strV S) := (hS.below (HB2.out.trans (hbY.mono HB2.out.size))).more (Nat.le_trans HB2.out.size hbY.size)
  have hO0 : Y0.ownsRow w.heap.size 9 1 (.slice (some ⟨X2.heap.size, 0, none⟩) 0 0) 0 [] := by
    rw [hY0]
    exact World.ownsRow_lit X2 #[] 0 HB2.out.size (Nat.zero_le _) rfl
  obtain ⟨ad0, ea0, hab0, hac0⟩ := hSA.2 (by omega)
  subst ea0
  have HB := Lib.hid (HB2.out.trans (hbY.mono HB2.out.size))
  have HBX := HB2
  clear HB2 HDV2 hSA hbY
  go_wp2_with (at_builtin; go_must (rw [← hY0]; refine _root_.Go.wpList_append_lies _ rfl _ _ 22 rfl w.heap.size 9 i0 _ 1 16 Try.underlying22 hi hz0 hz1 hz2 rfl (by omega) _ 0 [] rfl hO0 ad0 len0 cap0 (strV S) rfl ?qa1 (fun j u hj => hac0 j u hj) (strV_one S) ?qa2 ?qa3 ?qa4 ?qa5 _ rfl ?_))
  case qa1 => rw [strV, List.length_map, hSl, Nat.mul_one]
  case qa2 => omega
  case qa3 => unfold maxLen; omega
  case qa4 => omega
  case qa5 => exact HB.out.size
  intro gM cM Y1 hM hg1 hat1 hlt1
  (try simp only [Nat.zero_add, List.nil_append] at hM)
  have hbX1 : Below X2.heap.size X2 Y1 := by
    refine Below.grown (row := some X2.heap.size) ?_ hg1 (by first | simp | (rw [hY0]; simp)) (by intro k hk; injection hk with hk; omega)
    first | exact below_alloc X2 _ | (rw [hY0]; exact below_alloc X2 _)
  have HB1 := Lib.hid (HBX.out.trans (hbX1.mono HBX.out.size))
  obtain ⟨Y2, hY2⟩ : ∃ Y, Y = Y1.alloc (.cells #[] 9) := ⟨_, rfl⟩
  have hb12 : Below Y1.heap.size Y1 Y2 := hY2 ▸ below_alloc Y1 _
  have hb02 : Below w.heap.size w Y2 := HB1.out.trans (hb12.mono HB1.out.size)
  have hSB := (hS.below hb02).more hb02.size
  obtain ⟨ad1, ea1, hab1, hac1⟩ := hSB.2 (by omega)
  injection ea1 with ea1
  subst ea1
  have hO1 : Y2.ownsRow w.heap.size 9 1 (.slice (some ⟨Y1.heap.size, 0, none⟩) 0 0) 0 [] := by
    rw [hY2]
    exact World.ownsRow_lit Y1 #[] 0 HB1.out.size (Nat.zero_le _) rfl
  have HGM : Hid (X2.heap.size ≤ gM) := by
    show X2.heap.size ≤ gM
    rcases hat1 with h | h
    · first | (injection h with h; omega) | (simp [Value.ownBlock] at h; omega)
    · first | omega | (simp at h; omega)
  have HM := Lib.hid hM
  have HLT1 := Lib.hid hlt1
  have HX1 := Lib.hid hbX1
  clear hM hlt1 hg1 hat1 hO0 hac0 hSB hbX1
  go_wp2_with (at_builtin; go_must (rw [← hY2]; refine _root_.Go.wpList_append_lies _ rfl _ _ 22 rfl w.heap.size 9 i0 _ 1 16 Try.underlying22 hi hz0 hz1 hz2 rfl (by omega) _ 0 [] rfl hO1 ad0 len0 cap0 (strV S) rfl ?qb1 (fun j u hj => hac1 j u hj) (strV_one S) ?qb2 ?qb3 ?qb4 ?qb5 _ rfl ?_))
  case qb1 => rw [strV, List.length_map, hSl, Nat.mul_one]
  case qb2 => omega
  case qb3 => unfold maxLen; omega
  case qb4 => omega
  case qb5 => exact hb02.size
  intro gT cT Y3 hT hg2 hat2 hlt2
  (try simp only [Nat.zero_add, List.nil_append] at hT)
  have hb13 : Below Y1.heap.size Y1 Y3 := by
    refine Below.grown (row := some Y1.heap.size) ?_ hg2 (by first | simp | (rw [hY2]; simp)) (by intro k hk; injection hk with hk; omega)
    first | exact hb12 | exact below_alloc Y1 _
  have HGT : Hid (gM < gT) := by
    have h1 := HLT1.out
    have h2 := hb12.size
    show gM < gT
    rcases hat2 with h | h
    · first | (injection h with h; omega) | (simp [Value.ownBlock] at h; omega)
    · first | omega | (simp at h; omega)
  have HVN : VarN X2 w.heap.size W0.heap.size D2 gM gT := by
    obtain ⟨vS, vC, vK, vF, f, h1, h2⟩ := HV2.out
    refine ⟨vS, vC, vK, vF, f, h1, h2, fun e => ?_, fun e => ?_⟩
    · have h3 := (h1.s.lt _ e).2
      have h4 := HGM.out
      omega
    · have h3 := (h1.s.lt _ e).2
      have h4 := HGM.out
      have h5 := HGT.out
      omega
  have HST : Hid (St w Y3 W0.heap.size D2 S S gM cM gT cT len0 0) :=
    ⟨(HVN.up HX1.out).up hb13, hDuo.out, own_up HM.out hb13, hT, HB1.out.trans (hb13.mono HB1.out.size)⟩
  clear HVN HGM hT hg2 hat2 hlt2 hb13 hb12 hb02 HX1 HM HLT1 HV2 HB1 hO1 hac1 hY2 hY0 HBX hDuo HD2S H1 H2 hm0 hm1 hs0 hs1 r1 r2
  go_wp2_with fail
  have HL := Lib.hid hL
  have HF := Lib.hid hF
  have HLZ := Lib.hid hLz
  have hn1 : (1 : Int) ≤ (len0 : Int) := by omega
  have hn2 : (len0 : Int) ≤ 40 := by omega
  have hn3 : ((len0 : Int) == 0) = false := d2
  have hn4 : ¬ (len0 : Int) = 0 := by omega
  clear hL hF hLz d1 d3 hwk
  go_loopw [13] (fun i wr => ∃ k : Nat, ∃ D mine stands, k ≤ len1 ∧ i = .int .i64 (k : Int) ∧ Hid (St w wr W0.heap.size D mine stands gM cM gT cT len0 k)) (fun i _ => len1 - (intOf i).toNat)
  case atStart => exact ⟨0, D2, S, S, Nat.zero_le _, rfl, HST⟩
  case round =>
    clear HST
    obtain ⟨k, D, mine, stands, hk, rfl, HST⟩ := hrel
    by_cases hlk : k < len1
    · obtain ⟨ad1, ea1, _, hcx⟩ := int_at (lies_up' HL.out HST.out.hb) hlk (by omega)
      subst ea1
      have hwf := HLZ.out _ (List.getElem_mem (show k < L.length by omega))
      obtain ⟨x, hx⟩ : ∃ x, L[k]'(by omega) = x := ⟨_, rfl⟩
      rw [hx] at hcx hwf
      clear hx
      obtain ⟨kk, hkk, hkl, hx1, hx2⟩ := place_of (x := x) (n := len0) (by omega)
      obtain ⟨m1, m2, m3⟩ := HST.out.ml
      have M1 := Lib.hid m1
      have M2 := Lib.hid m2
      have M3 := Lib.hid m3
      have hMc := row_at HST.out.m hkl
      have hMf := HST.out.m.frozenAt kk
      have hTc := row_at HST.out.t hkl
      have hTf := HST.out.t.frozenAt kk
      have hMl := (HST.out.m.lt gM rfl).2
      have hTl := (HST.out.t.lt gT rfl).2
      have hMT : gM ≠ gT := Nat.ne_of_lt HGT.out
      have hTM : gT ≠ gM := Nat.ne_of_gt HGT.out
      have qM := World.new_ne wr _ hMc
      have qT := World.new_ne wr _ hTc
      have hcv := txt_conv (c := 2) (show k < 256 by omega) (Blk.new wr #[.int .u8 (97 + (k : Int) % 26), .int .u8 (k : Int)] 5)
      have kk0 : (0 : Int) ≤ (kk : Int) := by omega
      have kk1 : (kk : Int) < (len0 : Int) := by omega
      clear m1 m2 m3
      obtain ⟨tM, htM⟩ : ∃ t, mine.getD kk ⟨#[]⟩ = t := ⟨_, rfl⟩
      rw [htM] at hMc
      clear htM
      obtain ⟨tT, htT⟩ : ∃ t, stands.getD kk ⟨#[]⟩ = t := ⟨_, rfl⟩
      rw [htT] at hTc
      clear htT
      by_cases hk2 : k < len2
      · obtain ⟨ad2, ea2, hab2, hcf⟩ := bool_at HF.out hk2 (by omega)
        subst ea2
        have hcg : World.cell? (((wr.setCell ⟨gM, kk, none⟩ (.string (txt k))).alloc (.cells #[.int .u8 (97 + (k : Int) % 26), .int .u8 (k : Int)] 5)).alloc (.cells #[.int .i8 3, .int .i64 (kk : Int), .string (txt k), .int .i64 0] 38)) (ad2.add k) = some (.bool (F[k]'(by omega))) := by
          have hbb : Below w.heap.size w (((wr.setCell ⟨gM, kk, none⟩ (.string (txt k))).alloc (.cells #[.int .u8 (97 + (k : Int) % 26), .int .u8 (k : Int)] 5)).alloc (.cells #[.int .i8 3, .int .i64 (kk : Int), .string (txt k), .int .i64 0] 38)) := ((HST.out.hb.setCell (by simpa using (HST.out.m.lt gM rfl).1) _).alloc (by have := HST.out.hb.size; simpa using this) _).alloc (by have := HST.out.hb.size; simp; omega) _
          rw [hbb.cell (p := ad2.add k) (by rw [adr_block]; exact hab2)]
          exact hcf
        have hk2' : (k : Int) < (len2 : Int) := by omega
        cases hfk : F[k]'(by omega) with
        | true =>
          rw [hfk] at hcg
          clear hcf hfk
          obtain ⟨Z, hZ⟩ : ∃ Z, Z = (((wr.setCell ⟨gM, kk, none⟩ (.string (txt k))).setCell ⟨gT, kk, none⟩ (.string (txt k))).alloc (.cells #[.int .u8 (97 + (k : Int) % 26), .int .u8 (k : Int)] 5)).alloc (.cells #[.int .i8 2, .int .i64 (kk : Int), .string (txt k), .int .i64 0] 38) := ⟨_, rfl⟩
          have hZv : VarN Z w.heap.size W0.heap.size D gM gT ∧ Z.ownsRow w.heap.size 9 1 (.slice (some ⟨gM, 0, none⟩) len0 cM) len0 (strV (mine.set kk (txt k))) ∧ Z.ownsRow w.heap.size 9 1 (.slice (some ⟨gT, 0, none⟩) len0 cT) len0 (strV (stands.set kk (txt k))) ∧ Below w.heap.size w Z ∧ Blk Z (wr.heap.size + 1) #[.int .i8 2, .int .i64 (kk : Int), .string (txt k), .int .i64 0] 38 ∧ wr.heap.size + 1 < Z.heap.size := by
            have h := HST.out
            have g1 := (h.m.lt gM rfl).1
            have g2 := (h.t.lt gT rfl).1
            have v1 := h.v.text (k := kk) (s := txt k) h.m (.inl rfl)
            have M1 := row_set h.m kk (txt k)
            have T1 := row_other h.t (Nat.ne_of_gt HGT.out) kk (txt k)
            have B1 : Below w.heap.size w (wr.setCell ⟨gM, kk, none⟩ (.string (txt k))) := h.hb.setCell (by simpa using g1) _
            have v2 := v1.text (k := kk) (s := txt k) T1 (.inr rfl)
            have M2 := row_other M1 (Nat.ne_of_lt HGT.out) kk (txt k)
            have T2 := row_set T1 kk (txt k)
            have B2 := B1.setCell (p := ⟨gT, kk, none⟩) (by simpa using g2) (.string (txt k))
            have ba := below_alloc ((wr.setCell ⟨gM, kk, none⟩ (.string (txt k))).setCell ⟨gT, kk, none⟩ (.string (txt k))) (.cells #[.int .u8 (97 + (k : Int) % 26), .int .u8 (k : Int)] 5)
            have bb := below_alloc (((wr.setCell ⟨gM, kk, none⟩ (.string (txt k))).setCell ⟨gT, kk, none⟩ (.string (txt k))).alloc (.cells #[.int .u8 (97 + (k : Int) % 26), .int .u8 (k : Int)] 5)) (.cells #[.int .i8 2, .int .i64 (kk : Int), .string (txt k), .int .i64 0] 38)
            have bab := below_then ba bb
            have pk := Blk.new (((wr.setCell ⟨gM, kk, none⟩ (.string (txt k))).setCell ⟨gT, kk, none⟩ (.string (txt k))).alloc (.cells #[.int .u8 (97 + (k : Int) % 26), .int .u8 (k : Int)] 5)) #[.int .i8 2, .int .i64 (kk : Int), .string (txt k), .int .i64 0] 38
            rw [show (((wr.setCell ⟨gM, kk, none⟩ (.string (txt k))).setCell ⟨gT, kk, none⟩ (.string (txt k))).alloc (.cells #[.int .u8 (97 + (k : Int) % 26), .int .u8 (k : Int)] 5)).heap.size = wr.heap.size + 1 by simp] at pk
            rw [hZ]
            exact ⟨v2.up bab, own_up M2 bab, own_up T2 bab, B2.trans (bab.mono B2.size), pk, by simp⟩
          have hduo := duo_force HST.out.duo (k := kk) (by rw [M3.out]; exact hkl) (txt_size k) 0
          obtain ⟨D', hD'⟩ : ∃ D', D' = actD D 0 ⟨2, (kk : Int), txt k, 0⟩ := ⟨_, rfl⟩
          rw [← hD'] at hduo
          obtain ⟨he0, hdu⟩ := hduo
          have HDU := Lib.hid hdu
          have hn2 := node_two HST.out.duo.k 0 (by omega) ⟨2, (kk : Int), txt k, 0⟩
          have hmay := HST.out.duo.may
          have hsm := may_small hmay (by rw [M3.out]; omega)
          have hmay' := hdu.may
          have hSl' : D'.S.length = len0 := by rw [← hdu.m, List.length_set, M1.out]
          have hsm' := may_small hmay' (by rw [hSl']; omega)
          obtain ⟨ra, rb, rc, rd⟩ := duo_reads hdu (k := kk) (by rw [hSl']; exact hkl) ⟨#[]⟩ 0
          have hn3a := node_two hdu.k 0 (by omega) ⟨1, (kk : Int), ⟨#[]⟩, 0⟩
          have hn3b := node_two hdu.k 1 (by omega) ⟨1, (kk : Int), ⟨#[]⟩, 0⟩
          obtain ⟨tA, hA⟩ : ∃ t, (mine.set kk (txt k)).getD kk ⟨#[]⟩ = t := ⟨_, rfl⟩
          obtain ⟨tB, hB⟩ : ∃ t, (stands.set kk (txt k)).getD kk ⟨#[]⟩ = t := ⟨_, rfl⟩
          have HRa : Hid (refE D' 0 ⟨1, (kk : Int), ⟨#[]⟩, 0⟩ = 0 ∧ doS D' 0 ⟨1, (kk : Int), ⟨#[]⟩, 0⟩ = tA) := ⟨hn3a.1.trans ra, hn3a.2.2.trans (rb.trans hA)⟩
          have HRb : Hid (refE D' 1 ⟨1, (kk : Int), ⟨#[]⟩, 0⟩ = 0 ∧ doS D' 1 ⟨1, (kk : Int), ⟨#[]⟩, 0⟩ = tB) := ⟨hn3b.1.trans rc, hn3b.2.2.trans (rd.trans hB)⟩
          have HtA := Lib.hid hA
          have HtB := Lib.hid hB
          clear hA hB
          have HSL' := Lib.hid hSl'
          obtain ⟨vZ, mZ, tZ, bZ, kZ, lZ⟩ := hZv
          have HBZ := Lib.hid bZ
          have HMZ := Lib.hid mZ
          have HTZ := Lib.hid tZ
          have HVZ := Lib.hid vZ
          have hgM := (mZ.lt gM rfl).2
          have hgT := (tZ.lt gT rfl).2
          obtain ⟨pS, dS, pC, dC, pK, dK, pF, dF, k0, k1, k2, k3, k4, hdev, -, -⟩ := vZ.at.cells
          have y0 := kZ.cell 0 _ rfl
          have y1 := kZ.cell 1 _ rfl
          have y2 := kZ.cell 2 _ rfl
          have y3 := kZ.cell 3 _ rfl
          have hc := devDo_any _ D 0 ⟨2, (kk : Int), txt k, 0⟩ Z hdev hmay hsm (bd_act _ (by decide) kk (by omega) _)
          have e1 : refE D 0 ⟨2, (kk : Int), txt k, 0⟩ = 0 := hn2.1.trans he0
          have e2 : doD D 0 ⟨2, (kk : Int), txt k, 0⟩ = D' := hn2.2.1.trans hD'.symm
          rw [e1, e2] at hc
          generalize doS D 0 ⟨2, (kk : Int), txt k, 0⟩ = g3 at hc
          clear e1 e2 hn2 hn3a hn3b ra rb rc rd hdu he0 hD' hmay hsm hSl' vZ mZ tZ bZ kZ hdev
          go_upto_region 20 with (fail)
          rw [← hZ]
          clear hZ
          go_wp2_with fail
          refine hc.mono ?_
          rintro e W1 ⟨uS, uC, uK, uF, f, rfl, hO, hb⟩
          obtain ⟨aS, cS, aC, cC, aK, cK, aF, cF, rfl, rfl, rfl, rfl⟩ := own_shapes hO
          obtain ⟨HFr, hv, cs, kb⟩ := HVZ.out.at.next hO hb HBZ.out.size
          obtain ⟨X1', hX1'⟩ : ∃ X, X = into5 W1 W0.heap.size (.slice aS D'.S.length cS) (.slice aC D'.C.length cC) (.slice aK D'.K.length cK) D'.n (.slice aF D'.F.length cF) := ⟨_, rfl⟩
          have HVA := Lib.hid (HVZ.out.next hO hb HBZ.out.size hgM hgT)
          rw [← hX1'] at HVA
          have HDV := Lib.hid (into5_other hO kb (by decide) (by decide) (by decide) (by decide) (.slice aS D'.S.length cS) (.slice aC D'.C.length cC) (.slice aK D'.K.length cK) D'.n (.slice aF D'.F.length cF)).dev
          rw [← hX1'] at HDV
          have HBA := Lib.hid (into5_below (HBZ.out.trans (hb.mono HBZ.out.size)) HBL.out (.slice aS D'.S.length cS) (.slice aC D'.C.length cC) (.slice aK D'.K.length cK) D'.n (.slice aF D'.F.length cF))
          rw [← hX1'] at HBA
          have HMA := Lib.hid (row_into (own_up HMZ.out hb) kb (.slice aS D'.S.length cS) (.slice aC D'.C.length cC) (.slice aK D'.K.length cK) D'.n (.slice aF D'.F.length cF))
          rw [← hX1'] at HMA
          have HTA := Lib.hid (row_into (own_up HTZ.out hb) kb (.slice aS D'.S.length cS) (.slice aC D'.C.length cC) (.slice aK D'.K.length cK) D'.n (.slice aF D'.F.length cF))
          rw [← hX1'] at HTA
          have hXu := hX1'
          unfold into5 at hXu
          obtain ⟨⟨u0, x0⟩, ⟨u1, x1⟩, ⟨u2, x2⟩, ⟨u3, x3⟩, ⟨u4, x4⟩, f0, f1, f2, f3, f4⟩ := HFr
          clear hO hb hv kb HVZ HBZ HMZ HTZ hc hX1' k0 k1 k2 k3 k4 y0 y1 y2 y3 HST hgM hgT
          go_wp2_with fail
          rw [← hXu]
          clear hXu x0 x1 x2 x3 x4 f0 f1 f2 f3 f4
          have hc := devDo_any _ D' 0 ⟨1, (kk : Int), ⟨#[]⟩, 0⟩ X1' HDV.out hmay' hsm' (bd_act _ (by decide) kk (by omega) _)
          rw [HRa.out.1, HRa.out.2] at hc
          generalize doD D' 0 ⟨1, (kk : Int), ⟨#[]⟩, 0⟩ = Dq at hc
          refine hc.mono ?_
          rintro e W2' ⟨uS, uC, uK, uF, f, rfl, hO, hb⟩
          obtain ⟨aS, cS, aC, cC, aK, cK, aF, cF, rfl, rfl, rfl, rfl⟩ := own_shapes hO
          obtain ⟨X2', hX2'⟩ : ∃ X, X = W2'.alloc (.cells #[.slice aS Dq.S.length cS, .slice aC Dq.C.length cC, .slice aK Dq.K.length cK, .int .i64 Dq.n, .slice aF Dq.F.length cF] 29) := ⟨_, rfl⟩
          have hbx := below_then hb (hX2' ▸ below_alloc W2' _)
          have HVB := Lib.hid (HVA.out.up hbx)
          have HBB := Lib.hid (HBA.out.trans (hbx.mono HBA.out.size))
          have HMB := Lib.hid (own_up HMA.out hbx)
          have HTB := Lib.hid (own_up HTA.out hbx)
          obtain ⟨pS, dS, pC, dC, pK, dK, pF, dF, k0, k1, k2, k3, k4, hdev, -, -⟩ := HVB.out.at.cells
          have HDW := Lib.hid hdev
          rw [hX2'] at k0 k1 k2 k3 k4
          clear hO hb hbx hc hdev HVA HBA HMA HTA HDV
          go_wp2_with fail
          rw [← hX2']
          clear hX2' k0 k1 k2 k3 k4
          have hc := devDo_any _ D' 1 ⟨1, (kk : Int), ⟨#[]⟩, 0⟩ X2' HDW.out hmay' hsm' (bd_act _ (by decide) kk (by omega) _)
          rw [HRb.out.1, HRb.out.2] at hc
          generalize doD D' 1 ⟨1, (kk : Int), ⟨#[]⟩, 0⟩ = Dr at hc
          refine hc.mono ?_
          rintro e W3' ⟨uS, uC, uK, uF, f, rfl, hO, hb⟩
          obtain ⟨aS, cS, aC, cC, aK, cK, aF, cF, rfl, rfl, rfl, rfl⟩ := own_shapes hO
          obtain ⟨X3', hX3'⟩ : ∃ X, X = W3'.alloc (.cells #[.slice aS Dr.S.length cS, .slice aC Dr.C.length cC, .slice aK Dr.K.length cK, .int .i64 Dr.n, .slice aF Dr.F.length cF] 29) := ⟨_, rfl⟩
          have hbx := below_then hb (hX3' ▸ below_alloc W3' _)
          have HEND : Hid (St w X3' W0.heap.size D' (mine.set kk (txt k)) (stands.set kk (txt k)) gM cM gT cT len0 (k + 1)) := ⟨HVB.out.up hbx, HDU.out, own_up HMB.out hbx, own_up HTB.out hbx, HBB.out.trans (hbx.mono HBB.out.size)⟩
          have z1 := row_at HEND.out.m hkl
          have z2 := row_at HEND.out.t hkl
          rw [HtA.out] at z1
          rw [HtB.out] at z2
          rw [hX3'] at z1 z2 HEND
          have HK1 := Lib.hid (show k + 1 ≤ len1 by omega)
          clear hO hb hbx hc HVB HBB HMB HTB HDW hX3' HRa HRb HDU hmay' hsm' HSL'
          go_wp2_with fail
          go_roundw
          case rel => exact ⟨k + 1, D', _, _, HK1.out, by go_num, HEND⟩
          case measure => have := HK1.out; simp [intOf]; omega
        | false =>
          rw [hfk] at hcg
          clear hcf hfk
          obtain ⟨Z, hZ⟩ : ∃ Z, Z = ((wr.setCell ⟨gM, kk, none⟩ (.string (txt k))).alloc (.cells #[.int .u8 (97 + (k : Int) % 26), .int .u8 (k : Int)] 5)).alloc (.cells #[.int .i8 3, .int .i64 (kk : Int), .string (txt k), .int .i64 0] 38) := ⟨_, rfl⟩
          have hZv : VarN Z w.heap.size W0.heap.size D gM gT ∧ Z.ownsRow w.heap.size 9 1 (.slice (some ⟨gM, 0, none⟩) len0 cM) len0 (strV (mine.set kk (txt k))) ∧ Z.ownsRow w.heap.size 9 1 (.slice (some ⟨gT, 0, none⟩) len0 cT) len0 (strV stands) ∧ Below w.heap.size w Z ∧ Blk Z (wr.heap.size + 1) #[.int .i8 3, .int .i64 (kk : Int), .string (txt k), .int .i64 0] 38 ∧ wr.heap.size + 1 < Z.heap.size := by
            have h := HST.out
            have g1 := (h.m.lt gM rfl).1
            have g2 := (h.t.lt gT rfl).1
            have v1 := h.v.text (k := kk) (s := txt k) h.m (.inl rfl)
            have M1 := row_set h.m kk (txt k)
            have T1 := row_other h.t (Nat.ne_of_gt HGT.out) kk (txt k)
            have B1 : Below w.heap.size w (wr.setCell ⟨gM, kk, none⟩ (.string (txt k))) := h.hb.setCell (by simpa using g1) _
            have ba := below_alloc (wr.setCell ⟨gM, kk, none⟩ (.string (txt k))) (.cells #[.int .u8 (97 + (k : Int) % 26), .int .u8 (k : Int)] 5)
            have bb := below_alloc ((wr.setCell ⟨gM, kk, none⟩ (.string (txt k))).alloc (.cells #[.int .u8 (97 + (k : Int) % 26), .int .u8 (k : Int)] 5)) (.cells #[.int .i8 3, .int .i64 (kk : Int), .string (txt k), .int .i64 0] 38)
            have bab := below_then ba bb
            have pk := Blk.new ((wr.setCell ⟨gM, kk, none⟩ (.string (txt k))).alloc (.cells #[.int .u8 (97 + (k : Int) % 26), .int .u8 (k : Int)] 5)) #[.int .i8 3, .int .i64 (kk : Int), .string (txt k), .int .i64 0] 38
            rw [show ((wr.setCell ⟨gM, kk, none⟩ (.string (txt k))).alloc (.cells #[.int .u8 (97 + (k : Int) % 26), .int .u8 (k : Int)] 5)).heap.size = wr.heap.size + 1 by simp] at pk
            rw [hZ]
            exact ⟨v1.up bab, own_up M1 bab, own_up T1 bab, B1.trans (bab.mono B1.size), pk, by simp⟩
          have hduo := duo_put HST.out.duo (k := kk) (by rw [M3.out]; exact hkl) (txt_size k) 0
          obtain ⟨D', hD'⟩ : ∃ D', D' = actD D 0 ⟨3, (kk : Int), txt k, 0⟩ := ⟨_, rfl⟩
          rw [← hD'] at hduo
          obtain ⟨he0, hdu⟩ := hduo
          have HDU := Lib.hid hdu
          have hn2 := node_two HST.out.duo.k 0 (by omega) ⟨3, (kk : Int), txt k, 0⟩
          have hmay := HST.out.duo.may
          have hsm := may_small hmay (by rw [M3.out]; omega)
          have hmay' := hdu.may
          have hSl' : D'.S.length = len0 := by rw [← hdu.m, List.length_set, M1.out]
          have hsm' := may_small hmay' (by rw [hSl']; omega)
          obtain ⟨ra, rb, rc, rd⟩ := duo_reads hdu (k := kk) (by rw [hSl']; exact hkl) ⟨#[]⟩ 0
          have hn3a := node_two hdu.k 0 (by omega) ⟨1, (kk : Int), ⟨#[]⟩, 0⟩
          have hn3b := node_two hdu.k 1 (by omega) ⟨1, (kk : Int), ⟨#[]⟩, 0⟩
          obtain ⟨tA, hA⟩ : ∃ t, (mine.set kk (txt k)).getD kk ⟨#[]⟩ = t := ⟨_, rfl⟩
          obtain ⟨tB, hB⟩ : ∃ t, stands.getD kk ⟨#[]⟩ = t := ⟨_, rfl⟩
          have HRa : Hid (refE D' 0 ⟨1, (kk : Int), ⟨#[]⟩, 0⟩ = 0 ∧ doS D' 0 ⟨1, (kk : Int), ⟨#[]⟩, 0⟩ = tA) := ⟨hn3a.1.trans ra, hn3a.2.2.trans (rb.trans hA)⟩
          have HRb : Hid (refE D' 1 ⟨1, (kk : Int), ⟨#[]⟩, 0⟩ = 0 ∧ doS D' 1 ⟨1, (kk : Int), ⟨#[]⟩, 0⟩ = tB) := ⟨hn3b.1.trans rc, hn3b.2.2.trans (rd.trans hB)⟩
          have HtA := Lib.hid hA
          have HtB := Lib.hid hB
          clear hA hB
          have HSL' := Lib.hid hSl'
          obtain ⟨vZ, mZ, tZ, bZ, kZ, lZ⟩ := hZv
          have HBZ := Lib.hid bZ
          have HMZ := Lib.hid mZ
          have HTZ := Lib.hid tZ
          have HVZ := Lib.hid vZ
          have hgM := (mZ.lt gM rfl).2
          have hgT := (tZ.lt gT rfl).2
          obtain ⟨pS, dS, pC, dC, pK, dK, pF, dF, k0, k1, k2, k3, k4, hdev, -, -⟩ := vZ.at.cells
          have y0 := kZ.cell 0 _ rfl
          have y1 := kZ.cell 1 _ rfl
          have y2 := kZ.cell 2 _ rfl
          have y3 := kZ.cell 3 _ rfl
          have hc := devDo_any _ D 0 ⟨3, (kk : Int), txt k, 0⟩ Z hdev hmay hsm (bd_act _ (by decide) kk (by omega) _)
          have e1 : refE D 0 ⟨3, (kk : Int), txt k, 0⟩ = 0 := hn2.1.trans he0
          have e2 : doD D 0 ⟨3, (kk : Int), txt k, 0⟩ = D' := hn2.2.1.trans hD'.symm
          rw [e1, e2] at hc
          generalize doS D 0 ⟨3, (kk : Int), txt k, 0⟩ = g3 at hc
          clear e1 e2 hn2 hn3a hn3b ra rb rc rd hdu he0 hD' hmay hsm hSl' vZ mZ tZ bZ kZ hdev
          go_upto_region 20 with (fail)
          rw [← hZ]
          clear hZ
          go_wp2_with fail
          refine hc.mono ?_
          rintro e W1 ⟨uS, uC, uK, uF, f, rfl, hO, hb⟩
          obtain ⟨aS, cS, aC, cC, aK, cK, aF, cF, rfl, rfl, rfl, rfl⟩ := own_shapes hO
          obtain ⟨HFr, hv, cs, kb⟩ := HVZ.out.at.next hO hb HBZ.out.size
          obtain ⟨X1', hX1'⟩ : ∃ X, X = into5 W1 W0.heap.size (.slice aS D'.S.length cS) (.slice aC D'.C.length cC) (.slice aK D'.K.length cK) D'.n (.slice aF D'.F.length cF) := ⟨_, rfl⟩
          have HVA := Lib.hid (HVZ.out.next hO hb HBZ.out.size hgM hgT)
          rw [← hX1'] at HVA
          have HDV := Lib.hid (into5_other hO kb (by decide) (by decide) (by decide) (by decide) (.slice aS D'.S.length cS) (.slice aC D'.C.length cC) (.slice aK D'.K.length cK) D'.n (.slice aF D'.F.length cF)).dev
          rw [← hX1'] at HDV
          have HBA := Lib.hid (into5_below (HBZ.out.trans (hb.mono HBZ.out.size)) HBL.out (.slice aS D'.S.length cS) (.slice aC D'.C.length cC) (.slice aK D'.K.length cK) D'.n (.slice aF D'.F.length cF))
          rw [← hX1'] at HBA
          have HMA := Lib.hid (row_into (own_up HMZ.out hb) kb (.slice aS D'.S.length cS) (.slice aC D'.C.length cC) (.slice aK D'.K.length cK) D'.n (.slice aF D'.F.length cF))
          rw [← hX1'] at HMA
          have HTA := Lib.hid (row_into (own_up HTZ.out hb) kb (.slice aS D'.S.length cS) (.slice aC D'.C.length cC) (.slice aK D'.K.length cK) D'.n (.slice aF D'.F.length cF))
          rw [← hX1'] at HTA
          have hXu := hX1'
          unfold into5 at hXu
          obtain ⟨⟨u0, x0⟩, ⟨u1, x1⟩, ⟨u2, x2⟩, ⟨u3, x3⟩, ⟨u4, x4⟩, f0, f1, f2, f3, f4⟩ := HFr
          clear hO hb hv kb HVZ HBZ HMZ HTZ hc hX1' k0 k1 k2 k3 k4 y0 y1 y2 y3 HST hgM hgT
          go_wp2_with fail
          rw [← hXu]
          clear hXu x0 x1 x2 x3 x4 f0 f1 f2 f3 f4
          have hc := devDo_any _ D' 0 ⟨1, (kk : Int), ⟨#[]⟩, 0⟩ X1' HDV.out hmay' hsm' (bd_act _ (by decide) kk (by omega) _)
          rw [HRa.out.1, HRa.out.2] at hc
          generalize doD D' 0 ⟨1, (kk : Int), ⟨#[]⟩, 0⟩ = Dq at hc
          refine hc.mono ?_
          rintro e W2' ⟨uS, uC, uK, uF, f, rfl, hO, hb⟩
          obtain ⟨aS, cS, aC, cC, aK, cK, aF, cF, rfl, rfl, rfl, rfl⟩ := own_shapes hO
          obtain ⟨X2', hX2'⟩ : ∃ X, X = W2'.alloc (.cells #[.slice aS Dq.S.length cS, .slice aC Dq.C.length cC, .slice aK Dq.K.length cK, .int .i64 Dq.n, .slice aF Dq.F.length cF] 29) := ⟨_, rfl⟩
          have hbx := below_then hb (hX2' ▸ below_alloc W2' _)
          have HVB := Lib.hid (HVA.out.up hbx)
          have HBB := Lib.hid (HBA.out.trans (hbx.mono HBA.out.size))
          have HMB := Lib.hid (own_up HMA.out hbx)
          have HTB := Lib.hid (own_up HTA.out hbx)
          obtain ⟨pS, dS, pC, dC, pK, dK, pF, dF, k0, k1, k2, k3, k4, hdev, -, -⟩ := HVB.out.at.cells
          have HDW := Lib.hid hdev
          rw [hX2'] at k0 k1 k2 k3 k4
          clear hO hb hbx hc hdev HVA HBA HMA HTA HDV
          go_wp2_with fail
          rw [← hX2']
          clear hX2' k0 k1 k2 k3 k4
          have hc := devDo_any _ D' 1 ⟨1, (kk : Int), ⟨#[]⟩, 0⟩ X2' HDW.out hmay' hsm' (bd_act _ (by decide) kk (by omega) _)
          rw [HRb.out.1, HRb.out.2] at hc
          generalize doD D' 1 ⟨1, (kk : Int), ⟨#[]⟩, 0⟩ = Dr at hc
          refine hc.mono ?_
          rintro e W3' ⟨uS, uC, uK, uF, f, rfl, hO, hb⟩
          obtain ⟨aS, cS, aC, cC, aK, cK, aF, cF, rfl, rfl, rfl, rfl⟩ := own_shapes hO
          obtain ⟨X3', hX3'⟩ : ∃ X, X = W3'.alloc (.cells #[.slice aS Dr.S.length cS, .slice aC Dr.C.length cC, .slice aK Dr.K.length cK, .int .i64 Dr.n, .slice aF Dr.F.length cF] 29) := ⟨_, rfl⟩
          have hbx := below_then hb (hX3' ▸ below_alloc W3' _)
          have HEND : Hid (St w X3' W0.heap.size D' (mine.set kk (txt k)) stands gM cM gT cT len0 (k + 1)) := ⟨HVB.out.up hbx, HDU.out, own_up HMB.out hbx, own_up HTB.out hbx, HBB.out.trans (hbx.mono HBB.out.size)⟩
          have z1 := row_at HEND.out.m hkl
          have z2 := row_at HEND.out.t hkl
          rw [HtA.out] at z1
          rw [HtB.out] at z2
          rw [hX3'] at z1 z2 HEND
          have HK1 := Lib.hid (show k + 1 ≤ len1 by omega)
          clear hO hb hbx hc HVB HBB HMB HTB HDW hX3' HRa HRb HDU hmay' hsm' HSL'
          go_wp2_with fail
          go_roundw
          case rel => exact ⟨k + 1, D', _, _, HK1.out, by go_num, HEND⟩
          case measure => have := HK1.out; simp [intOf]; omega
      · have hk2' : decide ((k : Int) < (len2 : Int)) = false := decide_eq_false (by omega)
        have hk3' : decide (k < len2) = false := decide_eq_false hk2
        obtain ⟨Z, hZ⟩ : ∃ Z, Z = ((wr.setCell ⟨gM, kk, none⟩ (.string (txt k))).alloc (.cells #[.int .u8 (97 + (k : Int) % 26), .int .u8 (k : Int)] 5)).alloc (.cells #[.int .i8 3, .int .i64 (kk : Int), .string (txt k), .int .i64 0] 38) := ⟨_, rfl⟩
        have hZv : VarN Z w.heap.size W0.heap.size D gM gT ∧ Z.ownsRow w.heap.size 9 1 (.slice (some ⟨gM, 0, none⟩) len0 cM) len0 (strV (mine.set kk (txt k))) ∧ Z.ownsRow w.heap.size 9 1 (.slice (some ⟨gT, 0, none⟩) len0 cT) len0 (strV stands) ∧ Below w.heap.size w Z ∧ Blk Z (wr.heap.size + 1) #[.int .i8 3, .int .i64 (kk : Int), .string (txt k), .int .i64 0] 38 ∧ wr.heap.size + 1 < Z.heap.size := by
          have h := HST.out
          have g1 := (h.m.lt gM rfl).1
          have g2 := (h.t.lt gT rfl).1
          have v1 := h.v.text (k := kk) (s := txt k) h.m (.inl rfl)
          have M1 := row_set h.m kk (txt k)
          have T1 := row_other h.t (Nat.ne_of_gt HGT.out) kk (txt k)
          have B1 : Below w.heap.size w (wr.setCell ⟨gM, kk, none⟩ (.string (txt k))) := h.hb.setCell (by simpa using g1) _
          have ba := below_alloc (wr.setCell ⟨gM, kk, none⟩ (.string (txt k))) (.cells #[.int .u8 (97 + (k : Int) % 26), .int .u8 (k : Int)] 5)
          have bb := below_alloc ((wr.setCell ⟨gM, kk, none⟩ (.string (txt k))).alloc (.cells #[.int .u8 (97 + (k : Int) % 26), .int .u8 (k : Int)] 5)) (.cells #[.int .i8 3, .int .i64 (kk : Int), .string (txt k), .int .i64 0] 38)
          have bab := below_then ba bb
          have pk := Blk.new ((wr.setCell ⟨gM, kk, none⟩ (.string (txt k))).alloc (.cells #[.int .u8 (97 + (k : Int) % 26), .int .u8 (k : Int)] 5)) #[.int .i8 3, .int .i64 (kk : Int), .string (txt k), .int .i64 0] 38
          rw [show ((wr.setCell ⟨gM, kk, none⟩ (.string (txt k))).alloc (.cells #[.int .u8 (97 + (k : Int) % 26), .int .u8 (k : Int)] 5)).heap.size = wr.heap.size + 1 by simp] at pk
          rw [hZ]
          exact ⟨v1.up bab, own_up M1 bab, own_up T1 bab, B1.trans (bab.mono B1.size), pk, by simp⟩
        have hduo := duo_put HST.out.duo (k := kk) (by rw [M3.out]; exact hkl) (txt_size k) 0
        obtain ⟨D', hD'⟩ : ∃ D', D' = actD D 0 ⟨3, (kk : Int), txt k, 0⟩ := ⟨_, rfl⟩
        rw [← hD'] at hduo
        obtain ⟨he0, hdu⟩ := hduo
        have HDU := Lib.hid hdu
        have hn2 := node_two HST.out.duo.k 0 (by omega) ⟨3, (kk : Int), txt k, 0⟩
        have hmay := HST.out.duo.may
        have hsm := may_small hmay (by rw [M3.out]; omega)
        have hmay' := hdu.may
        have hSl' : D'.S.length = len0 := by rw [← hdu.m, List.length_set, M1.out]
        have hsm' := may_small hmay' (by rw [hSl']; omega)
        obtain ⟨ra, rb, rc, rd⟩ := duo_reads hdu (k := kk) (by rw [hSl']; exact hkl) ⟨#[]⟩ 0
        have hn3a := node_two hdu.k 0 (by omega) ⟨1, (kk : Int), ⟨#[]⟩, 0⟩
        have hn3b := node_two hdu.k 1 (by omega) ⟨1, (kk : Int), ⟨#[]⟩, 0⟩
        obtain ⟨tA, hA⟩ : ∃ t, (mine.set kk (txt k)).getD kk ⟨#[]⟩ = t := ⟨_, rfl⟩
        obtain ⟨tB, hB⟩ : ∃ t, stands.getD kk ⟨#[]⟩ = t := ⟨_, rfl⟩
        have HRa : Hid (refE D' 0 ⟨1, (kk : Int), ⟨#[]⟩, 0⟩ = 0 ∧ doS D' 0 ⟨1, (kk : Int), ⟨#[]⟩, 0⟩ = tA) := ⟨hn3a.1.trans ra, hn3a.2.2.trans (rb.trans hA)⟩
        have HRb : Hid (refE D' 1 ⟨1, (kk : Int), ⟨#[]⟩, 0⟩ = 0 ∧ doS D' 1 ⟨1, (kk : Int), ⟨#[]⟩, 0⟩ = tB) := ⟨hn3b.1.trans rc, hn3b.2.2.trans (rd.trans hB)⟩
        have HtA := Lib.hid hA
        have HtB := Lib.hid hB
        clear hA hB
        have HSL' := Lib.hid hSl'
        obtain ⟨vZ, mZ, tZ, bZ, kZ, lZ⟩ := hZv
        have HBZ := Lib.hid bZ
        have HMZ := Lib.hid mZ
        have HTZ := Lib.hid tZ
        have HVZ := Lib.hid vZ
        have hgM := (mZ.lt gM rfl).2
        have hgT := (tZ.lt gT rfl).2
        obtain ⟨pS, dS, pC, dC, pK, dK, pF, dF, k0, k1, k2, k3, k4, hdev, -, -⟩ := vZ.at.cells
        have y0 := kZ.cell 0 _ rfl
        have y1 := kZ.cell 1 _ rfl
        have y2 := kZ.cell 2 _ rfl
        have y3 := kZ.cell 3 _ rfl
        have hc := devDo_any _ D 0 ⟨3, (kk : Int), txt k, 0⟩ Z hdev hmay hsm (bd_act _ (by decide) kk (by omega) _)
        have e1 : refE D 0 ⟨3, (kk : Int), txt k, 0⟩ = 0 := hn2.1.trans he0
        have e2 : doD D 0 ⟨3, (kk : Int), txt k, 0⟩ = D' := hn2.2.1.trans hD'.symm
        rw [e1, e2] at hc
        generalize doS D 0 ⟨3, (kk : Int), txt k, 0⟩ = g3 at hc
        clear e1 e2 hn2 hn3a hn3b ra rb rc rd hdu he0 hD' hmay hsm hSl' vZ mZ tZ bZ kZ hdev
        go_upto_region 20 with (fail)
        rw [← hZ]
        clear hZ
        go_wp2_with fail
        refine hc.mono ?_
        rintro e W1 ⟨uS, uC, uK, uF, f, rfl, hO, hb⟩
        obtain ⟨aS, cS, aC, cC, aK, cK, aF, cF, rfl, rfl, rfl, rfl⟩ := own_shapes hO
        obtain ⟨HFr, hv, cs, kb⟩ := HVZ.out.at.next hO hb HBZ.out.size
        obtain ⟨X1', hX1'⟩ : ∃ X, X = into5 W1 W0.heap.size (.slice aS D'.S.length cS) (.slice aC D'.C.length cC) (.slice aK D'.K.length cK) D'.n (.slice aF D'.F.length cF) := ⟨_, rfl⟩
        have HVA := Lib.hid (HVZ.out.next hO hb HBZ.out.size hgM hgT)
        rw [← hX1'] at HVA
        have HDV := Lib.hid (into5_other hO kb (by decide) (by decide) (by decide) (by decide) (.slice aS D'.S.length cS) (.slice aC D'.C.length cC) (.slice aK D'.K.length cK) D'.n (.slice aF D'.F.length cF)).dev
        rw [← hX1'] at HDV
        have HBA := Lib.hid (into5_below (HBZ.out.trans (hb.mono HBZ.out.size)) HBL.out (.slice aS D'.S.length cS) (.slice aC D'.C.length cC) (.slice aK D'.K.length cK) D'.n (.slice aF D'.F.length cF))
        rw [← hX1'] at HBA
        have HMA := Lib.hid (row_into (own_up HMZ.out hb) kb (.slice aS D'.S.length cS) (.slice aC D'.C.length cC) (.slice aK D'.K.length cK) D'.n (.slice aF D'.F.length cF))
        rw [← hX1'] at HMA
        have HTA := Lib.hid (row_into (own_up HTZ.out hb) kb (.slice aS D'.S.length cS) (.slice aC D'.C.length cC) (.slice aK D'.K.length cK) D'.n (.slice aF D'.F.length cF))
        rw [← hX1'] at HTA
        have hXu := hX1'
        unfold into5 at hXu
        obtain ⟨⟨u0, x0⟩, ⟨u1, x1⟩, ⟨u2, x2⟩, ⟨u3, x3⟩, ⟨u4, x4⟩, f0, f1, f2, f3, f4⟩ := HFr
        clear hO hb hv kb HVZ HBZ HMZ HTZ hc hX1' k0 k1 k2 k3 k4 y0 y1 y2 y3 HST hgM hgT
        go_wp2_with fail
        rw [← hXu]
        clear hXu x0 x1 x2 x3 x4 f0 f1 f2 f3 f4
        have hc := devDo_any _ D' 0 ⟨1, (kk : Int), ⟨#[]⟩, 0⟩ X1' HDV.out hmay' hsm' (bd_act _ (by decide) kk (by omega) _)
        rw [HRa.out.1, HRa.out.2] at hc
        generalize doD D' 0 ⟨1, (kk : Int), ⟨#[]⟩, 0⟩ = Dq at hc
        refine hc.mono ?_
        rintro e W2' ⟨uS, uC, uK, uF, f, rfl, hO, hb⟩
        obtain ⟨aS, cS, aC, cC, aK, cK, aF, cF, rfl, rfl, rfl, rfl⟩ := own_shapes hO
        obtain ⟨X2', hX2'⟩ : ∃ X, X = W2'.alloc (.cells #[.slice aS Dq.S.length cS, .slice aC Dq.C.length cC, .slice aK Dq.K.length cK, .int .i64 Dq.n, .slice aF Dq.F.length cF] 29) := ⟨_, rfl⟩
        have hbx := below_then hb (hX2' ▸ below_alloc W2' _)
        have HVB := Lib.hid (HVA.out.up hbx)
        have HBB := Lib.hid (HBA.out.trans (hbx.mono HBA.out.size))
        have HMB := Lib.hid (own_up HMA.out hbx)
        have HTB := Lib.hid (own_up HTA.out hbx)
        obtain ⟨pS, dS, pC, dC, pK, dK, pF, dF, k0, k1, k2, k3, k4, hdev, -, -⟩ := HVB.out.at.cells
        have HDW := Lib.hid hdev
        rw [hX2'] at k0 k1 k2 k3 k4
        clear hO hb hbx hc hdev HVA HBA HMA HTA HDV
        go_wp2_with fail
        rw [← hX2']
        clear hX2' k0 k1 k2 k3 k4
        have hc := devDo_any _ D' 1 ⟨1, (kk : Int), ⟨#[]⟩, 0⟩ X2' HDW.out hmay' hsm' (bd_act _ (by decide) kk (by omega) _)
        rw [HRb.out.1, HRb.out.2] at hc
        generalize doD D' 1 ⟨1, (kk : Int), ⟨#[]⟩, 0⟩ = Dr at hc
        refine hc.mono ?_
        rintro e W3' ⟨uS, uC, uK, uF, f, rfl, hO, hb⟩
        obtain ⟨aS, cS, aC, cC, aK, cK, aF, cF, rfl, rfl, rfl, rfl⟩ := own_shapes hO
        obtain ⟨X3', hX3'⟩ : ∃ X, X = W3'.alloc (.cells #[.slice aS Dr.S.length cS, .slice aC Dr.C.length cC, .slice aK Dr.K.length cK, .int .i64 Dr.n, .slice aF Dr.F.length cF] 29) := ⟨_, rfl⟩
        have hbx := below_then hb (hX3' ▸ below_alloc W3' _)
        have HEND : Hid (St w X3' W0.heap.size D' (mine.set kk (txt k)) stands gM cM gT cT len0 (k + 1)) := ⟨HVB.out.up hbx, HDU.out, own_up HMB.out hbx, own_up HTB.out hbx, HBB.out.trans (hbx.mono HBB.out.size)⟩
        have z1 := row_at HEND.out.m hkl
        have z2 := row_at HEND.out.t hkl
        rw [HtA.out] at z1
        rw [HtB.out] at z2
        rw [hX3'] at z1 z2 HEND
        have HK1 := Lib.hid (show k + 1 ≤ len1 by omega)
        clear hO hb hbx hc HVB HBB HMB HTB HDW hX3' HRa HRb HDU hmay' hsm' HSL'
        go_wp2_with fail
        go_roundw
        case rel => exact ⟨k + 1, D', _, _, HK1.out, by go_num, HEND⟩
        case measure => have := HK1.out; simp [intOf]; omega
    · have hkn : k = len1 := by omega
      subst hkn
      obtain ⟨m1, m2, m3⟩ := HST.out.ml
      obtain ⟨m, hm⟩ : ∃ m, (cacheOf D 0).length = m := ⟨_, rfl⟩
      have hmn : m ≤ 60 := by have := HST.out.duo.n; omega
      have HDC := HST.out.duo.c
      have HFL : Hid (Fl w wr W0.heap.size D mine gM cM len0 m) := by
        have h := HST.out
        refine ⟨h.v.one, ⟨stands, ?_⟩, h.m, h.hb, hm, m3, HDC⟩
        exact ⟨h.duo.may, h.duo.k, h.duo.f0, h.duo.f1, h.duo.s, h.duo.c1, h.duo.m, h.duo.r, by omega⟩
      obtain ⟨pS, dS, pC, dC, pK, dK, pF, dF, k0, k1, k2, k3, k4, hdev, -, -⟩ := HFL.out.v.at.cells
      have hc := devCached_any _ D 0 wr hdev (by omega)
      rw [hm] at hc
      clear m1 m2 m3 hm HDC HST hdev
      go_wp2_with fail
      refine hc.mono ?_
      rintro e W1 ⟨rfl, hb1⟩
      have HFL1 := Lib.hid (HFL.out.up hb1)
      have d60 : (m : Int) ≤ 60 := by omega
      clear hc HFL k0 k1 k2 k3 k4 hb1
      go_wp2_with fail
      go_loopw [23] (fun i wq => ∃ j : Nat, ∃ E : Dev, j ≤ m ∧ i = .int .i64 (j : Int) ∧ Hid (Fl w wq W0.heap.size E mine gM cM len0 (m - j))) (fun i _ => m - (intOf i).toNat)
      case atStart => exact ⟨0, D, Nat.zero_le _, rfl, HFL1⟩
      case round =>
        clear HFL1
        obtain ⟨j, E, hj, rfl, HFL⟩ := hrel
        by_cases hjm : j < m
        · have hlt : (j : Int) < (m : Int) := by omega
          have hle : (j : Int) ≤ 60 := by omega
          obtain ⟨st, hduo⟩ := HFL.out.duo
          obtain ⟨c, hcq⟩ : ∃ c, m - j = c + 1 := ⟨m - j - 1, by omega⟩
          rw [hcq] at hduo
          obtain ⟨he0, st2, hdu, hln⟩ := duo_flush hduo (HFL.out.len.trans hcq) 0 ⟨#[]⟩ 0
          have hn2 := node_two hduo.k 0 (by omega) ⟨4, 0, ⟨#[]⟩, 0⟩
          have hmay := hduo.may
          have hsm := may_small hmay (by rw [HFL.out.ml]; omega)
          obtain ⟨E', hE'⟩ : ∃ E', E' = actD E 0 ⟨4, 0, ⟨#[]⟩, 0⟩ := ⟨_, rfl⟩
          rw [← hE'] at hdu hln
          have hSl' : E'.S.length = len0 := by rw [hE', (like_act E 0 _).s, HFL.out.ml]
          have hCl' : E'.C.length = 2 := hdu.c
          have HDU : Hid (∃ st, Duo E' mine st (m - (j + 1))) := ⟨st2, by rw [show m - (j + 1) = c by omega]; exact hdu⟩
          have HLN : Hid ((cacheOf E' 0).length = m - (j + 1)) := by show _ = _; rw [hln]; omega
          obtain ⟨pS, dS, pC, dC, pK, dK, pF, dF, k0, k1, k2, k3, k4, hdev, -, -⟩ := HFL.out.v.at.cells
          have hc := devDo_any _ E 0 ⟨4, 0, ⟨#[]⟩, 0⟩ _ hdev hmay hsm ⟨by decide, by decide, by decide, by decide, by decide, by decide⟩
          have e1 : refE E 0 ⟨4, 0, ⟨#[]⟩, 0⟩ = 0 := hn2.1.trans he0
          have e2 : doD E 0 ⟨4, 0, ⟨#[]⟩, 0⟩ = E' := hn2.2.1.trans hE'.symm
          rw [e1, e2] at hc
          generalize doS E 0 ⟨4, 0, ⟨#[]⟩, 0⟩ = g3 at hc
          have hgM := (HFL.out.m.lt gM rfl).2
          have HS3 := Lib.hid hSl'
          have HC3 := Lib.hid hCl'
          have HCQ := Lib.hid hcq
          clear e1 e2 hn2 he0 hE' hdu hln hmay hsm hSl' hCl' hdev hduo hcq
          go_wp2_with fail
          refine hc.mono ?_
          rintro e W2' ⟨uS, uC, uK, uF, f, rfl, hO, hb⟩
          obtain ⟨aS, cS, aC, cC, aK, cK, aF, cF, rfl, rfl, rfl, rfl⟩ := own_shapes hO
          obtain ⟨HFr, hv, cs, kb⟩ := HFL.out.v.at.next hO hb HFL.out.hb.size
          obtain ⟨X, hX⟩ : ∃ X, X = into5 W2' W0.heap.size (.slice aS E'.S.length cS) (.slice aC E'.C.length cC) (.slice aK E'.K.length cK) E'.n (.slice aF E'.F.length cF) := ⟨_, rfl⟩
          have HFA : Hid (Fl w X W0.heap.size E' mine gM cM len0 (m - (j + 1))) := by
            rw [hX]
            exact ⟨HFL.out.v.next hO hb HFL.out.hb.size hgM hgM, HDU.out, row_into (own_up HFL.out.m hb) kb (.slice aS E'.S.length cS) (.slice aC E'.C.length cC) (.slice aK E'.K.length cK) E'.n (.slice aF E'.F.length cF), into5_below (HFL.out.hb.trans (hb.mono HFL.out.hb.size)) HBL.out (.slice aS E'.S.length cS) (.slice aC E'.C.length cC) (.slice aK E'.K.length cK) E'.n (.slice aF E'.F.length cF), HLN.out, HS3.out, HC3.out⟩
          have HDV := Lib.hid (into5_other hO kb (by decide) (by decide) (by decide) (by decide) (.slice aS E'.S.length cS) (.slice aC E'.C.length cC) (.slice aK E'.K.length cK) E'.n (.slice aF E'.F.length cF)).dev
          rw [← hX] at HDV
          have hXu := hX
          unfold into5 at hXu
          obtain ⟨⟨u0, x0⟩, ⟨u1, x1⟩, ⟨u2, x2⟩, ⟨u3, x3⟩, ⟨u4, x4⟩, f0, f1, f2, f3, f4⟩ := HFr
          clear hO hb hv kb HFL hc hX k0 k1 k2 k3 k4 hgM
          go_wp2_with fail
          rw [← hXu]
          clear hXu x0 x1 x2 x3 x4 f0 f1 f2 f3 f4
          have hc := devCached_any _ E' 0 X HDV.out (by rw [HC3.out]; omega)
          have e3 : ((cacheOf E' 0).length : Int) = (m : Int) - 1 - (j : Int) := by have := HLN.out; omega
          rw [e3] at hc
          clear e3
          refine hc.mono ?_
          rintro e W3' ⟨rfl, hb⟩
          have HEND := Lib.hid (HFA.out.up hb)
          clear hc hb HFA HDV HDU HLN HS3 HC3 HCQ
          go_wp2_with fail
          go_roundw
          case rel => exact ⟨j + 1, E', by omega, by go_num, HEND⟩
          case measure => simp [intOf]; omega
        · have hjn : j = m := by omega
          subst hjn
          have HEQ : Hid (E.S = mine) := by
            obtain ⟨st, hduo⟩ := HFL.out.duo
            exact duo_end hduo (by rw [HFL.out.len]; omega)
          have HC0 : Hid ((cacheOf E 0).length = 0) := by show _ = _; rw [HFL.out.len]; omega
          obtain ⟨pS, dS, pC, dC, pK, dK, pF, dF, k0, k1, k2, k3, k4, hdev, hLS, -⟩ := HFL.out.v.at.cells
          have hmr := Lies.of_own HFL.out.m
          have hmlen : mine.length = len0 := by rw [← HEQ.out]; exact HFL.out.ml
          have hc := sameSectors_any pS (some ⟨gM, 0, none⟩) E.S.length len0 dS cM _ E.S mine _ hLS hmr rfl hmlen (by rw [HFL.out.ml]; unfold maxLen; omega) (by unfold maxLen; omega) (Nat.le_refl _)
          rw [decide_eq_true HEQ.out] at hc
          clear hmr hmlen hLS hdev
          go_wp2_with fail
          refine hc.mono ?_
          rintro e W2' ⟨rfl, hb⟩
          have HF2 := Lib.hid (HFL.out.up hb)
          clear hc hb HFL k0 k1 k2 k3 k4
          obtain ⟨pS, dS, pC, dC, pK, dK, pF, dF, k0, k1, k2, k3, k4, hdev, -, -⟩ := HF2.out.v.at.cells
          have hc := devCached_any _ E 0 W2' hdev (by rw [HF2.out.dc]; omega)
          rw [HC0.out] at hc
          clear hdev
          go_wp2_with fail
          refine hc.mono ?_
          rintro e W3' ⟨rfl, hb⟩
          have HB3 := Lib.hid (HF2.out.hb.trans (hb.mono HF2.out.hb.size))
          clear hc hb HF2 k0 k1 k2 k3 k4
          have hwk := wakes_any W3'
          go_wp2_with fail
          refine hwk.mono ?_
          rintro e W4' ⟨rfl, hb⟩
          go_wp2_with fail
          go_ret
          exact ⟨rfl, HB3.out.trans (hb.mono HB3.out.size)⟩
/-! ### THE ROW's STEP -/
set_option maxRecDepth 100000 in
theorem lifted (os : Os) (started : os.Started) (H : Type) (enc : TypeId × Value → H) :
    ReturnsInHanded {} Try.checked os 5 .any (Rows.deviceReadsSpec.pre6 enc Try.prog Try.f5 Rows.deviceReadsRow.domain false) (Rows.deviceReadsSpec.post enc Try.prog Try.f5 false true false false) := by
  refine returnsInHanded_of_change (C := Try.checked) own started (by kernel_rfl) Try.func5
    (ChangeSpec.witness6 (enc := enc) (C := Try.checked) false ⟨#[], #[.slice none 0 0, .slice none 0 0, .slice none 0 0], []⟩ 8 (by kernel_rfl) (by kernel_rfl) (by kernel_rfl) (by kernel_rfl)) ?_
  intro W base args ds gs before hval0 hW hcnd _
  have hval : ∀ (j : Nat) t v, Try.f5.params[j]? = some t → args[j]? = some v → Value.okWide Try.prog W .any base t v := hval0
  have hW' := hW
  obtain ⟨p, q, hA0, hV, rfl, hfz, hnd⟩ := hW
  have hA : DataW.TrodAll enc Try.prog W 0 (fun _ => true) true Try.f5.params.toList args.toList ds p := hA0
  rw [Try.params5] at hA hval
  obtain ⟨v0, vs0, d0, ds0, p0, q0, hargs, rfl, rfl, h0, r0⟩ := trodAll_cons hA
  obtain ⟨v1, vs1, d1, ds1, p1, q1, rfl, rfl, rfl, h1, r1⟩ := trodAll_cons r0
  obtain ⟨v2, vs2, d2, ds2, p2, q2, rfl, rfl, rfl, h2, r2⟩ := trodAll_cons r1
  obtain ⟨rfl, rfl, rfl⟩ := trodAll_nil r2
  obtain rfl : args = #[v0, v1, v2] := by cases args; simp_all
  obtain ⟨rfl, rfl⟩ := trodVars_none hV
  have k0 := h0
  have lt0 : ∀ x ∈ p0, x.block < W.heap.size := by obtain ⟨m, hm⟩ := k0; exact DataW.trod_lt m _ _ _ hm
  obtain ⟨a0, len0, cap0, rfl⟩ := okWide_slice Try.underlying22 (hval 0 22 v0 rfl rfl)
  obtain ⟨z0, w0⟩ : ∃ zs, IsStrs W a0 len0 cap0 zs := by
    obtain ⟨fuel, hf⟩ := h0
    rcases open_strings Try.underlying22 Try.underlying9 (by kernel_rfl) hf with ⟨hcs, _⟩ | ⟨x, l, c, zs, hcs, _, hl, hm, hz, _, hcell, hwz⟩
    · simp [Value.cells] at hcs
      obtain ⟨rfl, rfl, rfl⟩ := hcs
      exact ⟨[], .inl ⟨rfl, rfl, rfl, rfl⟩⟩
    · simp [Value.cells] at hcs
      obtain ⟨rfl, rfl, rfl⟩ := hcs
      exact ⟨zs, .inr ⟨_, rfl, hl, hm, by simpa using hz, hcell, hwz⟩⟩
  have k1 := h1
  have lt1 : ∀ x ∈ p1, x.block < W.heap.size := by obtain ⟨m, hm⟩ := k1; exact DataW.trod_lt m _ _ _ hm
  obtain ⟨a1, len1, cap1, rfl⟩ := okWide_slice Try.underlying27 (hval 1 27 v1 rfl rfl)
  obtain ⟨z1, w1⟩ : ∃ zs, IsRow .i64 W a1 len1 cap1 zs := by
    obtain ⟨fuel, hf⟩ := h1
    rcases open_ints Try.underlying27 Try.underlying3 (by kernel_rfl) hf with ⟨hcs, _⟩ | ⟨x, l, c, zs, hcs, _, hl, hm, hz, _, hcell, hwz⟩
    · simp [Value.cells] at hcs
      obtain ⟨rfl, rfl, rfl⟩ := hcs
      exact ⟨[], .inl ⟨rfl, rfl, rfl, rfl⟩⟩
    · simp [Value.cells] at hcs
      obtain ⟨rfl, rfl, rfl⟩ := hcs
      exact ⟨zs, .inr ⟨_, rfl, hl, hm, by simpa using hz, hcell, hwz⟩⟩
  have k2 := h2
  have lt2 : ∀ x ∈ p2, x.block < W.heap.size := by obtain ⟨m, hm⟩ := k2; exact DataW.trod_lt m _ _ _ hm
  obtain ⟨a2, len2, cap2, rfl⟩ := okWide_slice Try.underlying48 (hval 2 48 v2 rfl rfl)
  obtain ⟨z2, w2⟩ : ∃ zs, IsBools W a2 len2 cap2 zs := by
    obtain ⟨fuel, hf⟩ := h2
    rcases Go.Deep.open_bools Try.underlying48 Try.underlying4 (by kernel_rfl) hf with ⟨hcs, _⟩ | ⟨x, l, c, B, hcs, _, hl, hm, _, hcell⟩
    · simp [Value.cells] at hcs
      obtain ⟨rfl, rfl, rfl⟩ := hcs
      exact ⟨[], .inl ⟨rfl, rfl, rfl, rfl⟩⟩
    · simp [Value.cells] at hcs
      obtain ⟨rfl, rfl, rfl⟩ := hcs
      exact ⟨_, bools_of hl hm hcell⟩
  clear hA0 hval0
  refine (walk a0 len0 cap0 z0 a1 len1 cap1 z1 a2 len2 cap2 z2 W w0 w1 w2).mono fun e W' ⟨he, bel⟩ => ?_
  subst he
  exact ⟨_, rfl, _, _, _, [], _, [], hW', trodAll_mk1 (shut_bool Try.underlying4 _), (trodAll_cons_mk (Below.trod laidOut (by kernel_rfl) (of_decide_eq_true (by kernel_rfl)) k0 bel lt0) (trodAll_cons_mk (Below.trod laidOut (by kernel_rfl) (of_decide_eq_true (by kernel_rfl)) k1 bel lt1) (trodAll_cons_mk (Below.trod laidOut (by kernel_rfl) (of_decide_eq_true (by kernel_rfl)) k2 bel lt2) trodAll_mk0))), rfl, bel.frame _, fun h => by cases h⟩

theorem over : Rows.deviceReadsRow.holds Try.pinned (OpenSpec.ofChange Rows.deviceReadsSpec) :=
  OpenClaim.holds_of_wide 5 Try.f5 rfl rfl rfl rfl rfl rfl rfl ⟨rfl, rfl, rfl, rfl, rfl⟩ rfl rfl rfl rfl rfl (by kernel_rfl) Try.func5 (by kernel_rfl)
    (of_decide_eq_true (by kernel_rfl)) (by unfold Func.isWrapper; first | (rw [if_pos (by decide +kernel)]; kernel_rfl) | (rw [if_neg (by decide +kernel)]; exact ⟨rfl, rfl⟩))
    (fun os started H enc _ => lifted os started H enc)

/-- The statement. -/
theorem proved : Rows.DeviceReadsSaid := over
#print axioms proved
end Go.Proofs.Yteighdlhonegpaa.deviceReads
