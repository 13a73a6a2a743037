/-
  The listed table: what the condition gives the walks, and a world that meets it (the heap that the door's own run leaves).
-/
import Derived.Test.YtjdacpnfgpdjhaaDoorJoinCrcRefs
import Derived.Test.YtjdacpnfgpdjhaaDoorJoinDevAt
import Derived.Test.YtjdacpnfgpdjhaaDoorTie
import Derived.Test.YtjdacpnfgpdjhaaDoorCards
import Derived.ProofKit
import Derived.LaidMore
import Derived.OpenShut
import Derived.Stop.Joined
import Derived.SevenTiedAt
import Derived.Lib.LaidTab
namespace Go.Proofs.YtjdacpnfgpdjhaaDoor
open Go.ChangeShapes Go.WideShapes Go.ChangeAt Go.RowKit
set_option linter.unusedVariables false
set_option linter.unusedSimpArgs false

theorem own : ownKnob Tryd.prog.godebug = none := by kernel_rfl
theorem laidOut : laidOutB Tryd.prog = true := by kernel_rfl
def laidL : List (String × DataW Unit) := [("breakwater/crc.nibbles", Rows.laid_breakwater_crc_nibbles)]
theorem door_met (os : Os) (args : Array Value) : laidMetH Tryd.prog laidL ((World.doorLaid Tryd.prog 14 os).forCall (fun _ _ => 0) ⟨#[], args, []⟩).memory :=
  laidMetH_of_parts3 (fuel := 8) (laidMet_of_run' 8 (by kernel_rfl) (by kernel_rfl)) (by kernel_rfl) (by kernel_rfl)
theorem gNibs : Tryd.prog.globalNamed "breakwater/crc.nibbles" = some 0 := by kernel_rfl
theorem tNibs : (Tryd.prog.globals[0]?).map (·.type) = some 136 := by kernel_rfl
theorem nibs_data : Rows.laid_breakwater_crc_nibbles (H := Unit) = Lib.tabData .u32 (nibs.map fun n : Nat => (n : Int)) := by kernel_rfl
/-- What the condition gives the walks. -/
theorem met_of_laid {W : World} (h : laidMetH Tryd.prog laidL W) : TabOk W := by
  rw [MakeChecks.laidMetH_plain _ _ _ (by kernel_rfl)] at h
  unfold laidL at h
  rw [nibs_data] at h
  have hT := Lib.tabIs_of_head gNibs tNibs Tryd.underlying136 Tryd.underlying130 (by kernel_rfl) (by kernel_rfl) h
  have hc : ∀ i, i < 16 → W.cell? ⟨0, i, none⟩ = some (.int .u32 (nibAt i : Nat)) := by
    intro i hi
    rw [hT.cell gNibs i (by rw [List.length_map]; exact hi)]
    have hl : i < nibs.length := hi
    simp [nibAt, List.getD, List.getElem?_eq_getElem hl]
  exact ⟨by have := World.block_lt_of_cell? W _ (hc 0 (by omega)); omega, hc⟩

/-- What the frames are told of a slice of numbers that came in. -/
def IsRow (k : IntKind) (w : World) (a : Option Addr) (len cap : Nat) (zs : List Int) : Prop :=
  (a = none ∧ len = 0 ∧ cap = 0 ∧ zs = []) ∨
  ∃ x : Addr, a = some x ∧ len ≤ cap ∧ cap ≤ maxLen ∧ zs.length = cap ∧ (∀ i, i < zs.length → w.cell? (x.add i) = some (.int k (zs.getD i 0))) ∧ ∀ n ∈ zs, (Lit.int k n).wf = true

/-- Bytes that came in, as plain numbers. -/
theorem bytes_of_row {w : World} {a : Option Addr} {len cap : Nat} {zs : List Int} (h : IsRow .u8 w a len cap zs) :
    ∃ l : List Nat, Lies w w.heap.size a len (bv l) ∧ Bytes l ∧ l.length = len ∧ len ≤ 9223372036854775807 := by
  obtain ⟨h1, h2, h3⟩ := lies_of_row h
  have hb : ∀ n ∈ zs.take len, 0 ≤ n ∧ n < 256 := fun n hn => bd_u8 (h2 n hn)
  refine ⟨(zs.take len).map Int.toNat, ?_, ?_, ?_, by unfold maxLen at h3; omega⟩
  · have e : bv ((zs.take len).map Int.toNat) = (zs.take len).map (Value.int .u8) := by
      unfold bv
      rw [List.map_map]
      apply List.map_congr_left
      intro n hn
      have := hb n hn
      simp only [Function.comp]
      rw [Int.toNat_of_nonneg (by omega)]
    rw [e]
    exact h1
  · intro b hb'
    obtain ⟨n, hn, rfl⟩ := List.mem_map.1 hb'
    have := hb n hn
    omega
  · have := h1.1
    simpa using this
theorem bv_append (l m : List Nat) : bv (l ++ m) = bv l ++ bv m := by simp [bv]
theorem bv_one (l : List Nat) : ∀ u ∈ bv l, u.oneCell' = true := by
  intro u hu
  obtain ⟨n, _, rfl⟩ := List.mem_map.1 hu
  rfl
theorem Bytes.append {l m : List Nat} (h : Bytes l) (k : Bytes m) : Bytes (l ++ m) := fun b hb => (List.mem_append.1 hb).elim (h b) (k b)
theorem bd_u32 {n : Int} (h : (Lit.int .u32 n).wf = true) : ∃ v : Nat, n = (v : Int) ∧ v < 4294967296 := by
  have h1 : IntKind.u32.min = 0 := rfl
  have h2 : IntKind.u32.max = 4294967295 := rfl
  simp only [Lit.wf, Bool.and_eq_true, decide_eq_true_eq] at h
  exact ⟨n.toNat, by omega, by omega⟩

end Go.Proofs.YtjdacpnfgpdjhaaDoor
