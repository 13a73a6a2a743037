/-
  Texts as rows of bytes: forth and back, parts, as memory; Put's outcome in one form; the table's sum over a row of bytes.
-/
import Derived.Test.YtjdacpnfgpdjhaaDoorNumInts
import Derived.Test.YtjdacpnfgpdjhaaDoorNumRefPut
import Derived.Test.YtjdacpnfgpdjhaaDoorLaid
import Derived.Test.YtjdacpnfgpdjhaaDoorMem
import Derived.Test.YtjdacpnfgpdjhaaDoorAid
import Derived.Lib.AppendStr
namespace Go.Proofs.YtjdacpnfgpdjhaaDoor
open Go.RowKit
set_option linter.unusedVariables false
set_option linter.unusedSimpArgs false

/-- Are these numbers of that width? -/
def okP (x : Int) (zl : List Int) : Bool := mayB x && zl.all (fitsB x)
def errP (x : Int) (zl : List Int) : Int := if okP x zl = true then 0 else 2
def bytesP (x : Int) (zb zl : List Int) : List Int := if okP x zl = true then zb ++ encs x.toNat zl else []

theorem okP_append (x : Int) (l m : List Int) : okP x (l ++ m) = (okP x l && okP x m) := by
  simp only [okP, List.all_append]
  cases mayB x <;> simp
theorem errP_yes {x : Int} {zl : List Int} (h : okP x zl = true) : errP x zl = 0 := by rw [errP, if_pos h]
theorem errP_no {x : Int} {zl : List Int} (h : okP x zl = false) : errP x zl = 2 := by rw [errP, if_neg (by rw [h]; simp)]
theorem bytesP_yes {x : Int} {zb zl : List Int} (h : okP x zl = true) : bytesP x zb zl = zb ++ encs x.toNat zl := by rw [bytesP, if_pos h]
theorem bytesP_no {x : Int} {zb zl : List Int} (h : okP x zl = false) : bytesP x zb zl = [] := by rw [bytesP, if_neg (by rw [h]; simp)]
theorem okP_width {x : Int} {zl : List Int} (h : okP x zl = true) : 1 ≤ x ∧ x ≤ 6 := by
  rw [okP, Bool.and_eq_true] at h
  exact of_mayB h.1
theorem okP_at {x : Int} {zl : List Int} (h : okP x zl = true) {n : Int} (hn : n ∈ zl) : fitsB x n = true := by
  rw [okP, Bool.and_eq_true] at h
  exact List.all_eq_true.1 h.2 n hn
theorem bytesP_len {x : Int} {zb zl : List Int} : (bytesP x zb zl).length ≤ zb.length + 6 * zl.length := by
  by_cases h : okP x zl = true
  · rw [bytesP_yes h, List.length_append, encs_length]
    have := Nat.mul_le_mul_right zl.length (show x.toNat ≤ 6 by have := okP_width h; omega)
    omega
  · rw [bytesP_no (by simpa using h)]; simp
theorem bytesP_bytes {x : Int} {zb zl : List Int} (hb : IsBytes zb) : IsBytes (bytesP x zb zl) := by
  by_cases h : okP x zl = true
  · rw [bytesP_yes h]
    intro b hb'
    rcases List.mem_append.1 hb' with h' | h'
    · exact hb b h'
    · exact encs_bytes _ _ b h'
  · rw [bytesP_no (by simpa using h)]; intro b hb'; simp at hb'

theorem put_one {x : Int} {zb zl : List Int} {w : World} {e : Ending} {w' : World} (h : PutPost x zb zl w e w') :
    Below w.heap.size w w' ∧ ∃ (A : Option Addr) (c : Nat), e = .returned (.tuple #[.slice A (bytesP x zb zl).length c, .int .i64 (errP x zl)]) ∧ Lies w' w'.heap.size A (bytesP x zb zl).length ((bytesP x zb zl).map (Value.int .u8)) := by
  obtain ⟨hb, h⟩ := h
  refine ⟨hb, ?_⟩
  rcases h with ⟨h, rfl⟩ | ⟨h, v, rfl, hown⟩
  · have h' : okP x zl = false := h
    rw [errP_no h', bytesP_no h']
    exact ⟨none, 0, rfl, Lies.nothing⟩
  · have h' : okP x zl = true := h
    rw [errP_yes h', bytesP_yes h']
    obtain ⟨A, c, rfl⟩ := own_shape hown
    have hl := Lies.of_own hown
    have e : zb.length + x.toNat * zl.length = (zb ++ encs x.toNat zl).length := by rw [List.length_append, encs_length]
    rw [e] at hl ⊢
    exact ⟨A, c, rfl, hl⟩

/-- The same, the numbers behind names: their meaning is hidden. -/
theorem put_named {x : Int} {zb zl : List Int} {w : World} {e : Ending} {w' : World} (h : PutPost x zb zl w e w') :
    Below w.heap.size w w' ∧ ∃ (A : Option Addr) (n c : Nat) (err : Int) (zs : List Int), e = .returned (.tuple #[.slice A n c, .int .i64 err]) ∧ Hid (err = errP x zl) ∧ Hid (zs = bytesP x zb zl) ∧ Hid (zs.length = n) ∧ Lies w' w'.heap.size A n (zs.map (Value.int .u8)) := by
  obtain ⟨hb, A, c, he, hl⟩ := put_one h
  exact ⟨hb, A, _, c, _, _, he, rfl, rfl, rfl, hl⟩

/-- The error alone: nothing or ErrArg. -/
theorem err_cases {x : Int} {zl : List Int} {err : Int} (h : Hid (err = errP x zl)) : (okP x zl = true ∧ err = 0) ∨ (okP x zl = false ∧ err = 2) := by
  have h := h.out
  by_cases ho : okP x zl = true
  · exact .inl ⟨ho, h.trans (errP_yes ho)⟩
  · have ho' : okP x zl = false := by simpa using ho
    exact .inr ⟨ho', h.trans (errP_no ho')⟩

theorem bytesI_strOfNums {l : List Int} (h : IsBytes l) : bytesI (strOfNums l) = l := by
  unfold bytesI
  rw [strOfNums_data, List.map_map]
  have : ∀ b ∈ l, ((fun b => (b.toNat : Int)) ∘ fun n : Int => UInt8.ofNat n.toNat) b = b := by
    intro b hb
    have := h b hb
    simp only [Function.comp, UInt8.toNat_ofNat']
    omega
  rw [List.map_congr_left this, List.map_id']

theorem strOfNums_bytesI (s : ByteArray) : strOfNums (bytesI s) = s := by
  unfold strOfNums bytesI
  rw [List.map_map]
  have : ∀ b ∈ s.data.toList, ((fun n : Int => UInt8.ofNat n.toNat) ∘ fun b : UInt8 => (b.toNat : Int)) b = b := by
    intro b _
    simp
  rw [List.map_congr_left this, List.map_id']

theorem bytesI_append (s t : ByteArray) : bytesI (s ++ t) = bytesI s ++ bytesI t := by
  unfold bytesI
  simp

/-- '[]byte(s)': its bytes lie in new memory. -/
theorem str_to_bytes {P : Program} (w : World) (src dst e : TypeId) (s : ByteArray) (hs : P.underlying src = some .string) (hd : P.underlying dst = some (.slice e)) (he : P.underlying e = some (.int .u8)) :
    ∃ (A : Option Addr) (c : Nat) (w' : World), (convert src dst (.string s)).run P w = .ok (.slice A s.size c) w' ∧ Lies w' w'.heap.size A s.size ((bytesI s).map (Value.int .u8)) ∧ Below w.heap.size w w' := by
  refine ⟨_, _, _, run_bytes_of_string (P := P) w src dst e s hs hd he, ⟨by simp [bytesI_length], fun _ => ⟨_, rfl, ?_, fun j u hj => ?_⟩⟩, ?_⟩
  · show w.heap.size < (w.drew.alloc _).heap.size
    simp
  · have hjl : j < s.data.size := by
      have := (List.getElem?_eq_some_iff.1 hj).1
      simpa [bytesI] using this
    have hc : (⟨w.heap.size, 0, none⟩ : Addr).add j = ⟨w.heap.size, j, none⟩ := by
      unfold Addr.add
      by_cases h0 : j = 0 <;> simp [h0]
    rw [hc]
    have e1 := World.cell?_alloc_mark w.drew (bytesRow s (grownCap w s.size 0 e)) e ((bytesRow s (grownCap w s.size 0 e)).size, (bytesRow s (grownCap w s.size 0 e)).size + 1) j
    have e2 : w.drew.heap.size = w.heap.size := rfl
    rw [e2] at e1
    rw [e1, bytesRow_at s _ j hjl, ← hj]
    simp [bytesI, List.getElem?_eq_getElem (show j < s.data.toList.length by simpa using hjl)]
  · exact (Below.refl _ _).drew.alloc (Nat.le_refl _) _

theorem bytesI_inj {s t : ByteArray} (h : bytesI s = bytesI t) : s = t := by rw [← strOfNums_bytesI s, ← strOfNums_bytesI t, h]
theorem bytesI_take (s : ByteArray) (n : Nat) : bytesI (s.extract 0 n) = (bytesI s).take n := by
  unfold bytesI
  rw [Lib.extract_data, List.drop_zero, Nat.sub_zero, List.map_take]
theorem extract_ahead {t a : ByteArray} {r : List Int} (h : bytesI t = bytesI a ++ r) : t.extract 0 a.size = a := by
  apply bytesI_inj
  rw [bytesI_take, h, List.take_left' (bytesI_length a)]

theorem lies_new (w : World) (C : Array Value) (t : TypeId) (m : Nat × Nat) : Lies (w.alloc (.cells C t m)) (w.alloc (.cells C t m)).heap.size (some ⟨w.heap.size, 0, none⟩) C.size C.toList := by
  refine ⟨by simp, fun _ => ⟨_, rfl, by simp, fun j u hj => ?_⟩⟩
  have hc : (⟨w.heap.size, 0, none⟩ : Addr).add j = ⟨w.heap.size, j, none⟩ := by
    unfold Addr.add
    by_cases h0 : j = 0 <;> simp [h0]
  rw [hc]
  have e := World.cell?_alloc_mark w C t m j
  rw [e, ← hj]
  simp

theorem bytes_dec {l : List Nat} (h : (l.all fun b => decide (b < 256)) = true) : Bytes l := fun b hb => of_decide_eq_true (List.all_eq_true.1 h b hb)

/-! ### Bytes as plain numbers -/
def nats (l : List Int) : List Nat := l.map Int.toNat
theorem bytes_nats {l : List Int} (h : IsBytes l) : Bytes (nats l) := by
  intro b hb
  obtain ⟨x, hx, rfl⟩ := List.mem_map.1 hb
  have := h x hx
  omega
theorem bv_nats {l : List Int} (h : IsBytes l) : bv (nats l) = l.map (Value.int .u8) := by
  unfold bv nats
  rw [List.map_map]
  apply List.map_congr_left
  intro x hx
  have := h x hx
  simp only [Function.comp]
  rw [Int.toNat_of_nonneg (by omega)]
theorem nats_length (l : List Int) : (nats l).length = l.length := by simp [nats]
theorem nats_append (l m : List Int) : nats (l ++ m) = nats l ++ nats m := by simp [nats]
theorem nats_inj {l m : List Int} (hl : IsBytes l) (hm : IsBytes m) (h : nats l = nats m) : l = m := by
  have e : ∀ {l : List Int}, IsBytes l → (nats l).map (fun n : Nat => (n : Int)) = l := by
    intro l hl
    unfold nats
    rw [List.map_map, List.map_congr_left (g := id) (fun x hx => by
      have := hl x hx
      simp only [Function.comp, id]
      omega), List.map_id]
  rw [← e hl, ← e hm, h]
/-- The sum of a row of bytes. -/
def sumI (l : List Int) : Nat := sumS (nats l)
theorem sumI_lt {l : List Int} (h : IsBytes l) : sumI l < 4294967296 := addS_lt (by omega) (bytes_nats h)
theorem isBytes_append {l m : List Int} (h : IsBytes l) (k : IsBytes m) : IsBytes (l ++ m) := fun b hb => (List.mem_append.1 hb).elim (h b) (k b)

theorem sumI_any (n c : Nat) (A : Option Addr) (l : List Int) (w : World) (ht : TabOk w) (hA : Lies w w.heap.size A n (l.map (Value.int .u8))) (hl : IsBytes l) (hn : n ≤ 9223372036854775807) :
    Calls Tryd.prog 61 #[.slice A n c] w fun e w' => e = .returned (.int .i64 (sumI l : Nat)) ∧ Below w.heap.size w w' :=
  Sum_any n c A (nats l) w ht (by rw [bv_nats hl]; exact hA) (bytes_nats hl) hn
theorem refSumI_any (B n c : Nat) (A : Option Addr) (l : List Int) (w : World) (hA : Lies w B A n (l.map (Value.int .u8))) (hl : IsBytes l) (hn : n ≤ 9223372036854775807) :
    Calls Tryd.prog 46 #[.slice A n c] w fun e w' => e = .returned (.int .i64 (sumI l : Nat)) ∧ w = w' :=
  refSum_any B n c A (nats l) w (by rw [bv_nats hl]; exact hA) (bytes_nats hl) hn

/-- A text's cells are its bytes. -/
theorem strCells_bytesI (s : ByteArray) : Lib.strCells s = (bytesI s).map (Value.int .u8) := by
  unfold Lib.strCells bytesI
  rw [List.map_map]
  rfl
theorem bytesI_extract2 (s : ByteArray) (a b : Nat) : bytesI (s.extract a b) = ((bytesI s).drop a).take (b - a) := by
  unfold bytesI
  rw [Lib.extract_data, List.map_take, List.map_drop]

theorem str_same (a : ByteArray) : (a.toList == a.toList) = true := by simp
theorem str_diff {a b : ByteArray} (h : ¬ a = b) : (a.toList == b.toList) = false := by
  apply beq_eq_false_iff_ne.2
  intro h2
  rw [Lib.toList_data, Lib.toList_data] at h2
  exact h (bytesI_inj (by unfold bytesI; rw [h2]))

/-! ### One number, put -/
theorem put_single {X : Nat} {n : Int} {zb : List Int} {w w' : World} {e : Ending} (hf : fitsB X n = true) (h : PutPost (X : Int) zb [n] w e w') :
    ∃ v, e = .returned (.tuple #[v, .int .i64 0]) ∧ w'.ownsRow w.heap.size 5 1 v (zb.length + X) ((zb ++ enc X n).map (Value.int .u8)) ∧ Below w.heap.size w w' := by
  obtain ⟨hb, h⟩ := h
  have hm : mayB (X : Int) = true := by
    obtain ⟨⟨h1, h2⟩, _⟩ := of_fitsB hf
    exact mayB_yes h1 h2
  have hall : (mayB (X : Int) && [n].all (fitsB X)) = true := by simp [hm, hf]
  rcases h with ⟨hno, _⟩ | ⟨_, v, rfl, hown⟩
  · rw [hall] at hno; cases hno
  · refine ⟨v, rfl, ?_, hb⟩
    have e1 : encs ((X : Int)).toNat [n] = enc X n := by simp [encs]
    rw [e1] at hown
    simpa using hown
theorem Lies.alloc {w : World} {A : Option Addr} {n : Nat} {xs : List Value} (h : Lies w w.heap.size A n xs) (o : Obj) : Lies (w.alloc o) (w.alloc o).heap.size A n xs :=
  (h.below ((Below.refl _ _).alloc (Nat.le_refl _) o)).more (by simp)
theorem Lies.up {w w' : World} {B : Nat} {A : Option Addr} {n : Nat} {xs : List Value} (h : Lies w B A n xs) (hb : Below B w w') (hB : B ≤ w.heap.size) : Lies w' w'.heap.size A n xs :=
  (h.below hb).more (Nat.le_trans hB hb.size)
theorem lies_int (w : World) (t : TypeId) (n : Int) {b : Nat} (hb : w.heap.size = b) : Lies (w.alloc (.cells #[.int .i64 n] t)) (w.alloc (.cells #[.int .i64 n] t)).heap.size (some ⟨b, 0, none⟩) 1 ([n].map (Value.int .i64)) := by
  subst hb
  exact lies_new w #[.int .i64 n] t (0, 0)

end Go.Proofs.YtjdacpnfgpdjhaaDoor
