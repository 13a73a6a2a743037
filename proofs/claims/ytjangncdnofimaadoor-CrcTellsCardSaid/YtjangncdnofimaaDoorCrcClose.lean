/-
  Close, crc's and the document's: the four bytes; what the document says of two texts.
-/
import Derived.Test.YtjangncdnofimaaDoorCrcRefs
import Derived.Lib.SlBytesConst
namespace Go.Proofs.YtjangncdnofimaaDoor
open Go.RowKit
set_option linter.unusedVariables false
set_option linter.unusedSimpArgs false

theorem lies_new (w : World) (C : Array Value) (t : TypeId) (m : Nat × Nat) : Lies (w.alloc (.cells C t m)) (w.alloc (.cells C t m)).heap.size (some ⟨w.heap.size, 0, none⟩) C.size C.toList := by
  refine ⟨by simp, fun _ => ⟨_, rfl, by simp, fun j u hj => ?_⟩⟩
  have hc : (⟨w.heap.size, 0, none⟩ : Addr).add j = ⟨w.heap.size, j, none⟩ := by
    unfold Addr.add
    by_cases h0 : j = 0 <;> simp [h0]
  rw [hc]
  have e := World.cell?_alloc_mark w C t m j
  rw [e, ← hj]
  simp

/-- What Close comes to. -/
def ClosePost (l : List Nat) (want : Int) (w : World) (e : Ending) (w' : World) : Prop :=
  Below w.heap.size w w' ∧ ∃ ad c, e = .returned (.slice (some ad) 4 c) ∧ Lies w' w'.heap.size (some ad) 4 (bv (four (closeV l (r32 want))))

theorem closePost_of {l : List Nat} {want : Int} {w w5 : World} {v : Nat} (hb : Below w.heap.size w w5) (hv : v < 4294967296) (HV : Hid (v = closeV l (r32 want))) :
    ClosePost l want w (.returned (.slice (some ⟨w5.heap.size, 0, none⟩) 4 4)) (w5.alloc (.cells #[.int .u8 ((v : Int) % 256), .int .u8 ((v : Int) / 256 % 256), .int .u8 ((v : Int) / 65536 % 256), .int .u8 ((v : Int) / 16777216)] 5)) := by
  refine ⟨hb.alloc hb.size _, _, _, rfl, ?_⟩
  have h := lies_new w5 #[.int .u8 ((v : Int) % 256), .int .u8 ((v : Int) / 256 % 256), .int .u8 ((v : Int) / 65536 % 256), .int .u8 ((v : Int) / 16777216)] 5 (0, 0)
  have e : bv (four (closeV l (r32 want))) = [.int .u8 ((v : Int) % 256), .int .u8 ((v : Int) / 256 % 256), .int .u8 ((v : Int) / 65536 % 256), .int .u8 ((v : Int) / 16777216)] := by
    rw [← HV.out]
    simp only [bv, four, List.map_cons, List.map_nil]
    rw [show v / 16777216 % 256 = v / 16777216 by omega]
    rfl
  rw [e]
  exact h

set_option maxRecDepth 100000 in
set_option maxHeartbeats 1000000 in
theorem Close_any (want : Int) (n c : Nat) (A : Option Addr) (l : List Nat) (w : World) (h0 : -9223372036854775808 ≤ want) (h1 : want ≤ 9223372036854775807) (ht : TabOk w) (hA : Lies w w.heap.size A n (bv l)) (hl : Bytes l) (hn : n ≤ 9223372036854775807) :
    Calls Tryd.prog 19 #[.slice A n c, .int .i64 want] w (ClosePost l want w) := by
  have hsl : sumS l < 4294967296 := addS_lt (by omega) hl
  have HS : Hid (r32 (sumS l : Int) = sumS l) := r32_nat hsl
  go_enter Tryd.func19, Tryd.ntmps19
  go_wp2_with fail
  refine (Sum_any n c A l w ht hA hl hn).mono ?_
  rintro e w1 ⟨rfl, hb1⟩
  go_wp2_with fail
  refine (from_any _ _ (by omega) (by omega)).mono ?_
  rintro e w2 ⟨rfl, hb2⟩
  rw [HS.out]
  have hb02 := hb1.trans (hb2.mono hb1.size)
  clear hb1 hb2
  go_wp2_with fail
  refine (from_any _ _ h0 h1).mono ?_
  rintro e w3 ⟨rfl, hb3⟩
  have hb03 := hb02.trans (hb3.mono hb02.size)
  clear hb02 hb3
  go_wp2_with fail
  have HI : Hid (RegAt ((w3.alloc (.cells #[.int .u32 (ones (sumS l) : Nat)] 38)).alloc (.cells #[.int .u32 (ones (r32 want) : Nat)] 38)) w3.heap.size 38 (ones (sumS l))) :=
    ((Only.refl (w3.heap.size + 1) _).alloc _).reg (RegAt.new w3 _ _) (by omega)
  have HM : Hid (RegAt ((w3.alloc (.cells #[.int .u32 (ones (sumS l) : Nat)] 38)).alloc (.cells #[.int .u32 (ones (r32 want) : Nat)] 38)) (w3.heap.size + 1) 38 (ones (r32 want))) := by
    have h := RegAt.new (w3.alloc (.cells #[.int .u32 (ones (sumS l) : Nat)] 38)) 38 (ones (r32 want))
    show RegAt _ _ _ _
    simpa using h
  have hb04 : Below w.heap.size w ((w3.alloc (.cells #[.int .u32 (ones (sumS l) : Nat)] 38)).alloc (.cells #[.int .u32 (ones (r32 want) : Nat)] 38)) := (hb03.alloc hb03.size _).alloc (by have := hb03.size; simp; omega) _
  have hs3 := hb03.size
  clear hb03
  refine (byteBack_any _).mono ?_
  rintro e w4 ⟨rfl, hb4⟩
  have HI4 : Hid (RegAt w4 w3.heap.size 38 (ones (sumS l))) := (hb4.block _ (by simp; omega)).trans HI.out
  have HM4 : Hid (RegAt w4 (w3.heap.size + 1) 38 (ones (r32 want))) := (hb4.block _ (by simp)).trans HM.out
  have hb05 := hb04.trans (hb4.mono hb04.size)
  clear HI HM hb04 hb4
  go_wp2_with fail
  refine (move_any true _ _ _ 8 4 _ (ones_lt (r32_lt want)) (by omega) HM4.out).mono ?_
  rintro e w5 ⟨rfl, hr5, ho5⟩
  have hcm := hr5.cell
  have hci := (ho5.reg HI4.out (by omega)).cell
  have hb06 := hb05.trans (ho5.below hb05.size (by omega))
  have hml : mv true (8 * (4 : Int).toNat) (ones (r32 want)) < 4294967296 := mv_lt true _ (ones_lt (r32_lt want))
  have f1 := u32_xor_nat _ _ hml (ones_lt hsl)
  have hvl : mv true (8 * (4 : Int).toNat) (ones (r32 want)) ^^^ ones (sumS l) < 4294967296 := xor_lt hml (ones_lt hsl)
  have HV : Hid (mv true (8 * (4 : Int).toNat) (ones (r32 want)) ^^^ ones (sumS l) = closeV l (r32 want)) := (rfl : _ = _)
  generalize mv true (8 * (4 : Int).toNat) (ones (r32 want)) ^^^ ones (sumS l) = v at *
  generalize mv true (8 * (4 : Int).toNat) (ones (r32 want)) = u at *
  clear hr5 ho5 HI4 HM4 hb05
  go_wp2_with fail
  go_ret
  exact closePost_of hb06 hvl HV

set_option maxRecDepth 100000 in
set_option maxHeartbeats 1000000 in
theorem refClose_any (want : Int) (B n c : Nat) (A : Option Addr) (l : List Nat) (w : World) (hA : Lies w B A n (bv l)) (hl : Bytes l) (hn : n ≤ 9223372036854775807) :
    Calls Tryd.prog 20 #[.slice A n c, .int .i64 want] w (ClosePost l want w) := by
  have hsl : sumS l < 4294967296 := addS_lt (by omega) hl
  go_enter Tryd.func20, Tryd.ntmps20
  go_wp2_with fail
  refine (refSum_any B n c A l w hA hl hn).mono ?_
  rintro e w1 ⟨rfl, rfl⟩
  have f1 := i64_ones _ hsl
  have f2 := i64_rest want
  have f3 := i64_ones _ (r32_lt want)
  go_wp2_with fail
  refine (refBack_any _ 4 _ (by omega)).mono ?_
  rintro e w2 ⟨rfl, rfl⟩
  have hul := movedBy_lt true ((ones (r32 want) : Nat) : Int) 4
  have HU : Hid (movedBy true ((ones (r32 want) : Nat) : Int) 4 = bkN 32 (ones (r32 want))) := by
    show _ = _
    unfold movedBy
    rw [r32_nat (ones_lt (r32_lt want))]
    rfl
  have f4 := i64_xor_nat (ones (sumS l)) (movedBy true ((ones (r32 want) : Nat) : Int) 4) (Nat.lt_trans (ones_lt hsl) (by omega)) (by omega)
  have hvl : ones (sumS l) ^^^ movedBy true ((ones (r32 want) : Nat) : Int) 4 < 4294967296 := xor_lt (ones_lt hsl) hul
  have HV : Hid (ones (sumS l) ^^^ movedBy true ((ones (r32 want) : Nat) : Int) 4 = closeV l (r32 want)) := by
    show _ = _
    rw [HU.out, Nat.xor_comm]
    rfl
  generalize ones (sumS l) ^^^ movedBy true ((ones (r32 want) : Nat) : Int) 4 = v at *
  generalize movedBy true ((ones (r32 want) : Nat) : Int) 4 = u at *
  clear HU
  go_wp2_with fail
  go_ret
  exact closePost_of (Below.refl _ _) hvl HV

theorem bytes_dec {l : List Nat} (h : (l.all fun b => decide (b < 256)) = true) : Bytes l := fun b hb => of_decide_eq_true (List.all_eq_true.1 h b hb)
theorem sum_six : added (sumS [49, 50, 51, 52] : Nat) [53, 54] = sumS [49, 50, 51, 52, 53, 54] := by
  unfold added
  rw [r32_nat (show sumS [49, 50, 51, 52] < 4294967296 from addS_lt (by omega) (bytes_dec (by decide)))]
  exact addS_addS 0 [49, 50, 51, 52] [53, 54]

set_option maxRecDepth 100000 in
set_option maxHeartbeats 1000000 in
theorem wakes_any (w : World) (ht : TabOk w) : Calls Tryd.prog 8 #[] w fun e w' => e = .returned (.bool true) ∧ Below w.heap.size w w' := by
  have kc := fun (w : World) (C : Array Value) (n c : Nat) => Lib.run_convert_bytes_const (P := Tryd.prog) w 22 5 C n c Tryd.underlying22 Tryd.underlying5
  go_enter Tryd.func8, Tryd.ntmps8
  go_wp2_with fail
  refine (Sum_any 0 0 none [] w ht Lies.nothing (fun b hb => by simp at hb) (by omega)).mono ?_
  rintro e w1 ⟨rfl, hb1⟩
  rw [sum_nil]
  have ht1 := ht.below hb1
  go_wp2_with fail
  refine (Sum_any 9 9 _ [49, 50, 51, 52, 53, 54, 55, 56, 57] _ (ht1.alloc _) (lies_new w1 #[.int .u8 49, .int .u8 50, .int .u8 51, .int .u8 52, .int .u8 53, .int .u8 54, .int .u8 55, .int .u8 56, .int .u8 57] 5 (9, 10)) (bytes_dec (by decide)) (by omega)).mono ?_
  rintro e w2 ⟨rfl, hb2⟩
  rw [sum_nine]
  have hb02 : Below w.heap.size w w2 := (hb1.alloc hb1.size _).trans (hb2.mono (by have := hb1.size; simp; omega))
  have ht2 := ht.below hb02
  clear hb1 hb2 ht1
  go_wp2_with fail
  refine (Sum_any 4 4 _ [49, 50, 51, 52] _ (ht2.alloc _) (lies_new w2 #[.int .u8 49, .int .u8 50, .int .u8 51, .int .u8 52] 5 (4, 5)) (bytes_dec (by decide)) (by omega)).mono ?_
  rintro e w3 ⟨rfl, hb3⟩
  have hb03 : Below w.heap.size w w3 := (hb02.alloc hb02.size _).trans (hb3.mono (by have := hb02.size; simp; omega))
  have ht3 := ht.below hb03
  have hs4 : sumS [49, 50, 51, 52] < 4294967296 := addS_lt (by omega) (bytes_dec (by decide))
  clear hb02 hb3 ht2
  go_wp2_with fail
  refine (Add_any _ 0 2 2 _ [53, 54] _ (by omega) (by omega) (ht3.alloc _) (lies_new w3 #[.int .u8 53, .int .u8 54] 5 (0, 0)) (bytes_dec (by decide)) (by omega)).mono ?_
  rintro e w4 ⟨rfl, hb4⟩
  rw [sum_six]
  have hb04 : Below w.heap.size w w4 := (hb03.alloc hb03.size _).trans (hb4.mono (by have := hb03.size; simp; omega))
  have ht4 := ht.below hb04
  clear hb03 hb4 ht3 hs4
  go_wp2_with fail
  refine (Sum_any 6 6 _ [49, 50, 51, 52, 53, 54] _ (ht4.alloc _) (lies_new w4 #[.int .u8 49, .int .u8 50, .int .u8 51, .int .u8 52, .int .u8 53, .int .u8 54] 5 (6, 7)) (bytes_dec (by decide)) (by omega)).mono ?_
  rintro e w5 ⟨rfl, hb5⟩
  have hb05 : Below w.heap.size w w5 := (hb04.alloc hb04.size _).trans (hb5.mono (by have := hb04.size; simp; omega))
  clear hb04 hb5 ht4
  go_wp2_with fail
  go_ret
  exact ⟨rfl, hb05⟩

end Go.Proofs.YtjangncdnofimaaDoor
