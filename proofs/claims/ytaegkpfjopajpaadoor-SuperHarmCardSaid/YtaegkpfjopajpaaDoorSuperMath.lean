/-
  What stands on a device at first, over plain values: superblocks and headers, written and read, back and forth; a device's sectors at first; which sectors are a device's. It speaks of no program's function.
-/
import Derived.Test.YtaegkpfjopajpaaDoorSealAgain
import Derived.Test.YtaegkpfjopajpaaDoorGeoEqs
namespace Go.Proofs.YtaegkpfjopajpaaDoor
open Go.RowKit
set_option linter.unusedVariables false
set_option linter.unusedSimpArgs false

/-- The widths of a superblock's numbers, a geometry's numbers. -/
def supW : List Int := [2, 2, 2, 2, 2, 2, 4, 4]
def numsG (g : G) : List Int := [g.N, g.S, g.B, g.P, g.J, g.L, g.E, g.T]
def headW : List Int := [6]
def gOf (l : List Int) : G := ⟨l.getD 0 0, l.getD 1 0, l.getD 2 0, l.getD 3 0, l.getD 4 0, l.getD 5 0, l.getD 6 0, l.getD 7 0⟩
def gNil : G := ⟨0, 0, 0, 0, 0, 0, 0, 0⟩
theorem gOf_nums (g : G) : gOf (numsG g) = g := rfl

/-- The superblock; a header. -/
def supS (g : G) : ByteArray := sealS 1 (makeS ⟨#[]⟩ supW (numsG g))
def headS (t : Int) : ByteArray := sealS 2 (makeS ⟨#[]⟩ headW [t])
def tailMay (t : Int) : Bool := decide (0 ≤ t ∧ t ≤ 1099511627776)

def bytesV (g : G) : ByteArray := if mayG g = true then supS g else ⟨#[]⟩
def bytesE (g : G) : Int := if mayG g = true then 0 else 40
def headV' (t : Int) : ByteArray := if tailMay t = true then headS t else ⟨#[]⟩
def headE (t : Int) : Int := if tailMay t = true then 0 else 2

theorem sup_ok {g : G} (h : mayG g = true) : makeB 1 ⟨#[]⟩ supW (numsG g) = true := by
  have hg := of_may h
  have hz : okZ (supW.zip (numsG g)) = true := by
    simp only [supW, numsG, List.zip_cons_cons, List.zip_nil_right, okZ, List.all_cons, List.all_nil, Bool.and_true, Bool.and_eq_true]
    have w2 : mostOf 2 = 65535 := rfl
    have w4 : mostOf 4 = 4294967295 := rfl
    refine ⟨?_, ?_, ?_, ?_, ?_, ?_, ?_, ?_⟩ <;> exact fitsB_yes (by omega) (by omega) (by omega) (by omega)
  refine makeB_iff.2 ⟨rfl, hz, mayS_yes (by omega) ?_⟩
  have h6 := (encZ_le hz).2
  have hl : (supW.zip (numsG g)).length = 8 := rfl
  have h0 : (⟨#[]⟩ : ByteArray).size = 0 := rfl
  rw [makeS_size]
  omega
theorem head_iff (t : Int) : makeB 2 ⟨#[]⟩ headW [t] = tailMay t := by
  have w6 : mostOf 6 = 1099511627776 := rfl
  by_cases h : 0 ≤ t ∧ t ≤ 1099511627776
  · have hz : okZ (headW.zip [t]) = true := by
      simp only [headW, List.zip_cons_cons, List.zip_nil_right, okZ, List.all_cons, List.all_nil, Bool.and_true]
      exact fitsB_yes (by omega) (by omega) (by omega) (by omega)
    rw [show tailMay t = true from decide_eq_true h]
    refine makeB_iff.2 ⟨rfl, hz, mayS_yes (by omega) ?_⟩
    have h6 := (encZ_le hz).2
    have hl : (headW.zip [t]).length = 1 := rfl
    have h0 : (⟨#[]⟩ : ByteArray).size = 0 := rfl
    rw [makeS_size]
    omega
  · rw [show tailMay t = false from decide_eq_false h]
    apply makeB_bad
    simp only [headW, List.zip_cons_cons, List.zip_nil_right, okZ, List.all_cons, List.all_nil, Bool.and_true]
    rcases hf : fitsB 6 t with _ | _
    · rfl
    · have := of_fitsB hf
      omega
theorem make_sup {g : G} (h : mayG g = true) : makeOut 1 ⟨#[]⟩ supW (numsG g) = .returned (.tuple #[.string (bytesV g), .int .i64 (bytesE g)]) := by
  rw [makeOut_yes (sup_ok h), bytesV, bytesE, if_pos h, if_pos h]
  rfl
theorem make_head (t : Int) : makeOut 2 ⟨#[]⟩ headW [t] = .returned (.tuple #[.string (headV' t), .int .i64 (headE t)]) := by
  have h := head_iff t
  unfold makeOut headV' headE
  rw [h]
  split <;> rfl
theorem bytes_no {g : G} (h : mayG g = false) : bytesV g = ⟨#[]⟩ ∧ bytesE g = 40 := by
  simp [bytesV, bytesE, h]
theorem bytes_yes {g : G} (h : mayG g = true) : bytesV g = supS g ∧ bytesE g = 0 := by
  simp [bytesV, bytesE, h]

/-- Reading. -/
def supF (s : ByteArray) : Bool := fldB 1 s supW && decide (fldRest 1 s supW = ⟨#[]⟩)
def readB (s : ByteArray) : Bool := supF s && mayG (gOf (fldVal 1 s supW))
def readG (s : ByteArray) : G := if readB s = true then gOf (fldVal 1 s supW) else gNil
def readE (s : ByteArray) : Int := if readB s = true then 0 else 50
def tailB (s : ByteArray) : Bool := fldB 2 s headW && decide (fldRest 2 s headW = ⟨#[]⟩)
def tailV (s : ByteArray) : Int := if tailB s = true then (fldVal 2 s headW).getD 0 0 else 0
def tailE (s : ByteArray) : Int := if tailB s = true then 0 else 50
theorem readG_yes {s : ByteArray} (h : readB s = true) : readG s = gOf (fldVal 1 s supW) ∧ readE s = 0 := by simp [readG, readE, h]
theorem readG_no {s : ByteArray} (h : readB s = false) : readG s = gNil ∧ readE s = 50 := by simp [readG, readE, h]
theorem readB_not {s : ByteArray} (h : supF s = false) : readB s = false := by simp [readB, h]
theorem readB_of {s : ByteArray} (h : supF s = true) : readB s = mayG (gOf (fldVal 1 s supW)) := by simp [readB, h]
theorem tailV_yes {s : ByteArray} (h : tailB s = true) : tailV s = (fldVal 2 s headW).getD 0 0 ∧ tailE s = 0 := by simp [tailV, tailE, h]
theorem tailV_no {s : ByteArray} (h : tailB s = false) : tailV s = 0 ∧ tailE s = 50 := by simp [tailV, tailE, h]

theorem fields_of_make {k : Int} {zw zl : List Int} (h : makeB k ⟨#[]⟩ zw zl = true) (h2 : k ≤ 127) :
    fldB k (sealS k (makeS ⟨#[]⟩ zw zl)) zw = true ∧ fldVal k (sealS k (makeS ⟨#[]⟩ zw zl)) zw = zl ∧ fldRest k (sealS k (makeS ⟨#[]⟩ zw zl)) zw = ⟨#[]⟩ := by
  obtain ⟨h3, h4, h5⟩ := fields_make h h2
  refine ⟨?_, h3, h4⟩
  rcases hh : fldB k (sealS k (makeS ⟨#[]⟩ zw zl)) zw with _ | _
  · unfold fldErr at h5
    rw [hh] at h5
    simp at h5
  · rfl
/-- A superblock is read as its geometry. -/
theorem read_sup {g : G} (h : mayG g = true) : readB (supS g) = true ∧ readG (supS g) = g ∧ readE (supS g) = 0 := by
  obtain ⟨h1, h2, h3⟩ := fields_of_make (sup_ok h) (by omega)
  have hb : readB (supS g) = true := by
    unfold readB supF supS
    rw [h1, h2, h3, gOf_nums, h]
    simp
  obtain ⟨e1, e2⟩ := readG_yes hb
  refine ⟨hb, ?_, e2⟩
  rw [e1]
  unfold supS
  rw [h2, gOf_nums]
/-- What is read, written, is the sector. -/
theorem sup_read {s : ByteArray} (h : readB s = true) : mayG (readG s) = true ∧ supS (readG s) = s := by
  have h' := h
  unfold readB supF at h
  rw [Bool.and_eq_true, Bool.and_eq_true, decide_eq_true_iff] at h
  obtain ⟨⟨h1, h2⟩, h3⟩ := h
  obtain ⟨_, _, hl, _, hs⟩ := make_fields h1 h2
  obtain ⟨e1, _⟩ := readG_yes h'
  rw [e1]
  refine ⟨h3, ?_⟩
  have hn : numsG (gOf (fldVal 1 s supW)) = fldVal 1 s supW := by
    generalize fldVal 1 s supW = l at hl
    match l, hl with
    | [a, b, c, d, e, f, g, i], _ => rfl
  unfold supS
  rw [hn]
  exact hs
theorem tail_head {t : Int} (h : tailMay t = true) : tailB (headS t) = true ∧ tailV (headS t) = t ∧ tailE (headS t) = 0 := by
  obtain ⟨h1, h2, h3⟩ := fields_of_make ((head_iff t).trans h) (by omega)
  have hb : tailB (headS t) = true := by
    unfold tailB headS
    rw [h1, h3]
    simp
  obtain ⟨e1, e2⟩ := tailV_yes hb
  refine ⟨hb, ?_, e2⟩
  rw [e1]
  unfold headS
  rw [h2]
  rfl
theorem head_tail {s : ByteArray} (h : tailB s = true) : tailMay (tailV s) = true ∧ headS (tailV s) = s := by
  have h' := h
  unfold tailB at h
  rw [Bool.and_eq_true, decide_eq_true_iff] at h
  obtain ⟨_, _, hl, hm, hs⟩ := make_fields h.1 h.2
  obtain ⟨e1, _⟩ := tailV_yes h'
  rw [e1]
  have hn : [(fldVal 2 s headW).getD 0 0] = fldVal 2 s headW := by
    generalize fldVal 2 s headW = l at hl
    match l, hl with
    | [a], _ => rfl
  refine ⟨?_, ?_⟩
  · rw [← head_iff, hn]
    exact hm
  · unfold headS
    rw [hn]
    exact hs
theorem ofS_size {k : Int} {s : ByteArray} (h : ofS k s = true) : 7 ≤ s.size ∧ s.size ≤ 512 := by
  unfold ofS at h
  rw [Bool.and_eq_true] at h
  obtain ⟨h7, h5, _⟩ := isI_parts h.1
  rw [bytesI_length] at h7 h5
  exact ⟨h7, h5⟩
theorem readB_size {s : ByteArray} (h : readB s = true) : 7 ≤ s.size ∧ s.size ≤ 512 := by
  unfold readB supF fldB at h
  rw [Bool.and_eq_true, Bool.and_eq_true, Bool.and_eq_true] at h
  exact ofS_size h.1.1.1
theorem tailB_size {s : ByteArray} (h : tailB s = true) : 7 ≤ s.size ∧ s.size ≤ 512 := by
  unfold tailB fldB at h
  rw [Bool.and_eq_true, Bool.and_eq_true] at h
  exact ofS_size h.1.1
theorem tail_zero : tailMay 0 = true := by decide
theorem tail_seven : tailMay 7 = true := by decide

/-- A device's sectors at first. -/
def totN (g : G) : Nat := (totalV g).toNat
def fmtAt (g : G) (i : Nat) : ByteArray := if (whatV g i).k = 1 then supS g else if (whatV g i).k = 5 then headS 0 else ⟨#[]⟩
def fmtL (g : G) : List ByteArray := (List.range (totN g)).map (fmtAt g)
theorem fmtL_length (g : G) : (fmtL g).length = totN g := by simp [fmtL]
theorem fmt_super {g : G} {i : Nat} (h : (whatV g i).k = 1) : fmtAt g i = supS g := by simp [fmtAt, h]
theorem fmt_head {g : G} {i : Nat} (h : (whatV g i).k = 5) : fmtAt g i = headS 0 := by simp [fmtAt, h]
theorem fmt_other {g : G} {i : Nat} (h1 : ¬ (whatV g i).k = 1) (h5 : ¬ (whatV g i).k = 5) : fmtAt g i = ⟨#[]⟩ := by simp [fmtAt, h1, h5]
/-- Some of them. -/
def mixF (g : G) (pre : List Nat) : List ByteArray := (List.range (totN g)).map fun i => if i ∈ pre then fmtAt g i else ⟨#[]⟩
theorem mixF_length (g : G) (pre : List Nat) : (mixF g pre).length = totN g := by simp [mixF]
theorem mixF_nil (g : G) : mixF g [] = List.replicate (totN g) ⟨#[]⟩ := by
  simp only [mixF, List.not_mem_nil, if_false]
  exact List.map_const' .. ▸ (by simp)
theorem mixF_all (g : G) : mixF g (List.range (totN g)) = fmtL g := by
  unfold mixF fmtL
  refine List.map_congr_left fun i hi => ?_
  rw [if_pos hi]
theorem mixF_set (g : G) (pre : List Nat) {x : Nat} (hx : x < totN g) : (mixF g pre).set x (fmtAt g x) = mixF g (pre ++ [x]) := by
  apply List.ext_getElem
  · simp [mixF]
  · intro i h1 h2
    simp only [mixF, List.getElem_set, List.getElem_map, List.getElem_range, List.mem_append, List.mem_singleton]
    by_cases e : x = i
    · subst e; simp
    · have e' : ¬ i = x := fun h => e h.symm
      simp [e, e']
theorem mixF_same {g : G} (pre : List Nat) {x : Nat} (h : fmtAt g x = ⟨#[]⟩) : mixF g pre = mixF g (pre ++ [x]) := by
  unfold mixF
  refine List.map_congr_left fun i _ => ?_
  by_cases e : i ∈ pre
  · rw [if_pos e, if_pos (List.mem_append_left _ e)]
  · by_cases e2 : i = x
    · subst e2
      rw [if_neg e, if_pos (by simp), h]
    · rw [if_neg e, if_neg (by simp [e, e2])]

/-- May s stand where that kind does? -/
def fitB (k : Int) (s : ByteArray) : Bool := if k = 5 then tailB s else if k = 7 then decide (s.size ≤ 256) else decide (s.size ≤ 512)
theorem fit_head {k : Int} (s : ByteArray) (h : k = 5) : fitB k s = tailB s := if_pos h
theorem fit_data {k : Int} (s : ByteArray) (h : k = 7) : fitB k s = decide (s.size ≤ 256) := by subst h; rfl
theorem fit_other {k : Int} (s : ByteArray) (h5 : ¬ k = 5) (h7 : ¬ k = 7) : fitB k s = decide (s.size ≤ 512) := by simp [fitB, h5, h7]
def fitAt (g : G) (l : List ByteArray) (i : Nat) : Bool := fitB (whatV g i).k (l.getD i ⟨#[]⟩)
def firstOk (l : List ByteArray) : Bool := decide (0 < l.length) && readB (l.getD 0 ⟨#[]⟩) && decide (l.length = totN (readG (l.getD 0 ⟨#[]⟩)))
def checkB (l : List ByteArray) : Bool := firstOk l && (List.range l.length).all (fitAt (readG (l.getD 0 ⟨#[]⟩)) l)
def checkG (l : List ByteArray) : G := if checkB l = true then readG (l.getD 0 ⟨#[]⟩) else gNil
def checkE (l : List ByteArray) : Int := if checkB l = true then 0 else 50
theorem check_yes {l : List ByteArray} (h : checkB l = true) : checkG l = readG (l.getD 0 ⟨#[]⟩) ∧ checkE l = 0 := by simp [checkG, checkE, h]
theorem check_no {l : List ByteArray} (h : checkB l = false) : checkG l = gNil ∧ checkE l = 50 := by simp [checkG, checkE, h]
theorem check_first {l : List ByteArray} (h : firstOk l = false) : checkB l = false := by simp [checkB, h]

end Go.Proofs.YtaegkpfjopajpaaDoor
