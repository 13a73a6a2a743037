/-
  crc: bytes taken into a register, four bits at a time by the table; Add, Sum.
-/
import Derived.Test.YtjdacpnfgpdjhaaDoorCrcLeaf
namespace Go.Proofs.YtjdacpnfgpdjhaaDoor
open Go.RowKit
set_option linter.unusedVariables false
set_option linter.unusedSimpArgs false

/-- The table's numbers, behind a name. -/
def nibAt (i : Nat) : Nat := nibs.getD i 0
/-- The package's table reads as its text lays it. -/
def TabOk (w : World) : Prop := 0 < w.heap.size ∧ ∀ i, i < 16 → w.cell? ⟨0, i, none⟩ = some (.int .u32 (nibAt i : Nat))
theorem TabOk.keep {w w' : World} (h : TabOk w) (hs : w.heap.size ≤ w'.heap.size) (hk : ∀ p : Addr, p.block = 0 → w'.cell? p = w.cell? p) : TabOk w' :=
  ⟨Nat.lt_of_lt_of_le h.1 hs, fun i hi => (hk _ rfl).trans (h.2 i hi)⟩
theorem TabOk.below {w w' : World} (h : TabOk w) (hb : Below w.heap.size w w') : TabOk w' := h.keep hb.size fun p hp => hb.cell (by rw [hp]; exact h.1)
theorem TabOk.alloc {w : World} (h : TabOk w) (o : Obj) : TabOk (w.alloc o) := h.below ((Below.refl _ _).alloc (Nat.le_refl _) o)


theorem u32_nb (y : Nat) (h : y < 4294967296) : bits .xor .u32 ((y : Int) / 16) ((nibAt (y % 16) : Nat) : Int) = ((nb y : Nat) : Int) := by
  rw [show (y : Int) / 16 = ((y / 16 : Nat) : Int) by omega, nibAt, u32_xor_nat _ _ (by omega) nib_at]
  rfl

theorem rg_take {l : List Nat} {x k : Nat} (h : k < l.length) (hb : Bytes l) (hx : x < 4294967296) : nb (nb (rg x (l.take k) ^^^ l[k])) = rg x (l.take (k + 1)) := by
  have h1 := hb _ (List.getElem_mem h)
  rw [nb_nb (xor_lt (rg_lt hx _ (fun b hm => hb b (List.mem_of_mem_take hm))) (by omega)), List.take_succ_eq_append_getElem h, rg_snoc]

set_option maxRecDepth 100000 in
set_option maxHeartbeats 1000000 in
theorem take_any (b : Nat) (T : TypeId) (x : Nat) (B n c : Nat) (A : Option Addr) (l : List Nat) (w : World) (hx : x < 4294967296) (hr : RegAt w b T x) (ht : TabOk w) (hA : Lies w B A n (bv l)) (hl : Bytes l) (hn : n ≤ 9223372036854775807) :
    Calls Tryd.prog 94 #[.pointer (some ⟨b, 0, none⟩), .slice A n c] w fun e w' => e = .returned (.tuple #[]) ∧ RegAt w' b T (rg x l) ∧ Only b w w' := by
  have HL : Hid (l.length = n) := by show _ = _; rw [← bv_length]; exact hA.1
  have hc := hr.cell
  have hf := hr.free
  have HG := Lib.hid hr
  clear hr
  go_enter Tryd.func94, Tryd.ntmps94
  go_wp2_with fail
  go_loop [4, 12] (fun u i => ∃ k : Nat, k ≤ n ∧ i = .int .i64 k ∧ ∃ X : Nat, u = .int .u32 X ∧ Hid (X = rg x (l.take k))) (fun _ i => n - (intOf i).toNat)
  case atStart => exact ⟨0, Nat.zero_le _, rfl, x, rfl, (rfl : x = rg x (l.take 0))⟩
  case round =>
    obtain ⟨k, hk, rfl, X, rfl, HX⟩ := hrel
    by_cases hlt : k < n
    · obtain ⟨ad, u, rfl, had, hu, hcell⟩ := hA.at_ hlt
      have hkl : k < l.length := by rw [HL.out]; exact hlt
      rw [bv_at hkl] at hu
      obtain rfl : u = .int .u8 (l[k] : Int) := (Option.some.inj hu).symm
      have hXl : X < 4294967296 := by rw [HX.out]; exact rg_lt hx _ (fun b hm => hl b (List.mem_of_mem_take hm))
      have hb1 := hl _ (List.getElem_mem hkl)
      have hN := rg_take (x := x) hkl hl hx
      rw [← HX.out] at hN
      generalize l[k] = q at *
      have hyl : X ^^^ q < 4294967296 := xor_lt hXl (by omega)
      have f1 := u32_xor_nat X q hXl (by omega)
      generalize X ^^^ q = y at *
      have f2 := u32_nib y hyl
      have f3 := ht.2 (y % 16) (Nat.mod_lt _ (by decide))
      have f4 := u32_nb y hyl
      have hzl := nb_lt hyl
      generalize nb y = z at *
      have g2 := u32_nib z hzl
      have g3 := ht.2 (z % 16) (Nat.mod_lt _ (by decide))
      have g4 := u32_nb z hzl
      generalize nb z = v at *
      have HN := Lib.hid hN
      have hy16 : y % 16 < 16 := Nat.mod_lt _ (by decide)
      have hz16 : z % 16 < 16 := Nat.mod_lt _ (by decide)
      clear hN hu
      go_wp2_with fail
      go_round
      case rel => exact ⟨k + 1, by omega, by go_num, v, rfl, HN⟩
      case measure => simp [intOf]; omega
    · have HE : Hid (X = rg x l) := by
        have h := HX.out
        rw [show k = n by omega, List.take_of_length_le (by rw [HL.out]; exact Nat.le_refl _)] at h
        exact h
      clear HX
      go_wp2_with fail
      go_end0
      exact ⟨rfl, by rw [← HE.out]; exact one_setCell HG.out, (Only.refl b w).set _⟩

/-- Some bytes' sum, out of whatever number. -/
def added (x : Int) (l : List Nat) : Nat := addS (r32 x) l
theorem added_lt {x : Int} {l : List Nat} (h : Bytes l) : added x l < 4294967296 := addS_lt (r32_lt x) h

set_option maxRecDepth 100000 in
set_option maxHeartbeats 1000000 in
theorem Add_any (x : Int) (B n c : Nat) (A : Option Addr) (l : List Nat) (w : World) (h0 : -9223372036854775808 ≤ x) (h1 : x ≤ 9223372036854775807) (ht : TabOk w) (hA : Lies w w.heap.size A n (bv l)) (hl : Bytes l) (hn : n ≤ 9223372036854775807) :
    Calls Tryd.prog 85 #[.int .i64 x, .slice A n c] w fun e w' => e = .returned (.int .i64 (added x l : Nat)) ∧ Below w.heap.size w w' := by
  go_enter Tryd.func85, Tryd.ntmps85
  go_wp2_with fail
  refine (from_any x _ h0 h1).mono ?_
  rintro e w1 ⟨rfl, hb1⟩
  have ht1 := (ht.below hb1).alloc (.cells #[.int .u32 (ones (r32 x) : Nat)] 132)
  have hb2 := hb1.alloc hb1.size (.cells #[.int .u32 (ones (r32 x) : Nat)] 132)
  have hA1 := hA.below hb2
  have hg := RegAt.new w1 132 (ones (r32 x))
  have HG := Lib.hid hg
  have hs1 := hb1.size
  clear hg hb1
  go_wp2_with fail
  refine (take_any _ _ _ _ _ _ _ l _ (ones_lt (r32_lt x)) HG.out ht1 hA1 hl hn).mono ?_
  rintro e w2 ⟨rfl, hg2, ho2⟩
  have HG2 := Lib.hid hg2
  have hb02 := hb2.trans (ho2.below (by simp; omega) hs1)
  clear hg2 ho2 HG hA1 ht1 hb2
  go_wp2_with fail
  refine (sum_any _ _ _ _ (rg_lt (ones_lt (r32_lt x)) l hl) HG2.out).mono ?_
  rintro e w3 ⟨rfl, rfl⟩
  go_wp2_with fail
  go_ret
  exact ⟨rfl, hb02⟩

set_option maxRecDepth 100000 in
theorem Sum_any (n c : Nat) (A : Option Addr) (l : List Nat) (w : World) (ht : TabOk w) (hA : Lies w w.heap.size A n (bv l)) (hl : Bytes l) (hn : n ≤ 9223372036854775807) :
    Calls Tryd.prog 61 #[.slice A n c] w fun e w' => e = .returned (.int .i64 (sumS l : Nat)) ∧ Below w.heap.size w w' := by
  go_enter Tryd.func61, Tryd.ntmps61
  go_wp2_with fail
  refine (Add_any 0 0 n c A l w (by omega) (by omega) ht hA hl hn).mono ?_
  rintro e w1 ⟨rfl, hb1⟩
  rw [show added 0 l = sumS l from rfl]
  go_wp2_with fail
  go_ret
  exact ⟨rfl, hb1⟩

end Go.Proofs.YtjdacpnfgpdjhaaDoor
