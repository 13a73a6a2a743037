/- Joined: Text, SealMath, SealDo, SealSeal, SealOpen, SealOf, SealTell, DecMath, SealWakes, SealHarm, Fresh, SealTurn. -/
import Derived.Test.YtjdacpnfgpdjhaaDoorNumInts
import Derived.Test.YtjdacpnfgpdjhaaDoorNumRefPut
import Derived.Test.YtjdacpnfgpdjhaaDoorLaid
import Derived.Test.YtjdacpnfgpdjhaaDoorMem
import Derived.Test.YtjdacpnfgpdjhaaDoorAid
import Derived.Lib.AppendStr
import Derived.Test.YtjdacpnfgpdjhaaDoorCmdMath
/-
  Texts as rows of bytes: forth and back, parts, as memory; Put's outcome in one form; the table's sum over a row of bytes.
-/
namespace Go.Proofs.YtjdacpnfgpdjhaaDoor
open Go.RowKit
set_option linter.unusedVariables false
set_option linter.unusedSimpArgs false

/-- Are these numbers of that width? -/
def okP (x : Int) (zl : List Int) : Bool := mayB x && zl.all (fitsB x)
def errP (x : Int) (zl : List Int) : Int := if okP x zl = true then 0 else 2
def bytesP (x : Int) (zb zl : List Int) : List Int := if okP x zl = true then zb ++ encs x.toNat zl else []

theorem okP_append (x : Int) (l m : List Int) : okP x (l ++ m) = (okP x l && okP x m) := by
  simp only [okP, List.all_append]
  cases mayB x <;> simp
theorem errP_yes {x : Int} {zl : List Int} (h : okP x zl = true) : errP x zl = 0 := by rw [errP, if_pos h]
theorem errP_no {x : Int} {zl : List Int} (h : okP x zl = false) : errP x zl = 2 := by rw [errP, if_neg (by rw [h]; simp)]
theorem bytesP_yes {x : Int} {zb zl : List Int} (h : okP x zl = true) : bytesP x zb zl = zb ++ encs x.toNat zl := by rw [bytesP, if_pos h]
theorem bytesP_no {x : Int} {zb zl : List Int} (h : okP x zl = false) : bytesP x zb zl = [] := by rw [bytesP, if_neg (by rw [h]; simp)]
theorem okP_width {x : Int} {zl : List Int} (h : okP x zl = true) : 1 ≤ x ∧ x ≤ 6 := by
  rw [okP, Bool.and_eq_true] at h
  exact of_mayB h.1
theorem okP_at {x : Int} {zl : List Int} (h : okP x zl = true) {n : Int} (hn : n ∈ zl) : fitsB x n = true := by
  rw [okP, Bool.and_eq_true] at h
  exact List.all_eq_true.1 h.2 n hn
theorem bytesP_len {x : Int} {zb zl : List Int} : (bytesP x zb zl).length ≤ zb.length + 6 * zl.length := by
  by_cases h : okP x zl = true
  · rw [bytesP_yes h, List.length_append, encs_length]
    have := Nat.mul_le_mul_right zl.length (show x.toNat ≤ 6 by have := okP_width h; omega)
    omega
  · rw [bytesP_no (by simpa using h)]; simp
theorem bytesP_bytes {x : Int} {zb zl : List Int} (hb : IsBytes zb) : IsBytes (bytesP x zb zl) := by
  by_cases h : okP x zl = true
  · rw [bytesP_yes h]
    intro b hb'
    rcases List.mem_append.1 hb' with h' | h'
    · exact hb b h'
    · exact encs_bytes _ _ b h'
  · rw [bytesP_no (by simpa using h)]; intro b hb'; simp at hb'

theorem put_one {x : Int} {zb zl : List Int} {w : World} {e : Ending} {w' : World} (h : PutPost x zb zl w e w') :
    Below w.heap.size w w' ∧ ∃ (A : Option Addr) (c : Nat), e = .returned (.tuple #[.slice A (bytesP x zb zl).length c, .int .i64 (errP x zl)]) ∧ Lies w' w'.heap.size A (bytesP x zb zl).length ((bytesP x zb zl).map (Value.int .u8)) := by
  obtain ⟨hb, h⟩ := h
  refine ⟨hb, ?_⟩
  rcases h with ⟨h, rfl⟩ | ⟨h, v, rfl, hown⟩
  · have h' : okP x zl = false := h
    rw [errP_no h', bytesP_no h']
    exact ⟨none, 0, rfl, Lies.nothing⟩
  · have h' : okP x zl = true := h
    rw [errP_yes h', bytesP_yes h']
    obtain ⟨A, c, rfl⟩ := own_shape hown
    have hl := Lies.of_own hown
    have e : zb.length + x.toNat * zl.length = (zb ++ encs x.toNat zl).length := by rw [List.length_append, encs_length]
    rw [e] at hl ⊢
    exact ⟨A, c, rfl, hl⟩

/-- The same, the numbers behind names: their meaning is hidden. -/
theorem put_named {x : Int} {zb zl : List Int} {w : World} {e : Ending} {w' : World} (h : PutPost x zb zl w e w') :
    Below w.heap.size w w' ∧ ∃ (A : Option Addr) (n c : Nat) (err : Int) (zs : List Int), e = .returned (.tuple #[.slice A n c, .int .i64 err]) ∧ Hid (err = errP x zl) ∧ Hid (zs = bytesP x zb zl) ∧ Hid (zs.length = n) ∧ Lies w' w'.heap.size A n (zs.map (Value.int .u8)) := by
  obtain ⟨hb, A, c, he, hl⟩ := put_one h
  exact ⟨hb, A, _, c, _, _, he, rfl, rfl, rfl, hl⟩

/-- The error alone: nothing or ErrArg. -/
theorem err_cases {x : Int} {zl : List Int} {err : Int} (h : Hid (err = errP x zl)) : (okP x zl = true ∧ err = 0) ∨ (okP x zl = false ∧ err = 2) := by
  have h := h.out
  by_cases ho : okP x zl = true
  · exact .inl ⟨ho, h.trans (errP_yes ho)⟩
  · have ho' : okP x zl = false := by simpa using ho
    exact .inr ⟨ho', h.trans (errP_no ho')⟩

theorem bytesI_strOfNums {l : List Int} (h : IsBytes l) : bytesI (strOfNums l) = l := by
  unfold bytesI
  rw [strOfNums_data, List.map_map]
  have : ∀ b ∈ l, ((fun b => (b.toNat : Int)) ∘ fun n : Int => UInt8.ofNat n.toNat) b = b := by
    intro b hb
    have := h b hb
    simp only [Function.comp, UInt8.toNat_ofNat']
    omega
  rw [List.map_congr_left this, List.map_id']

theorem strOfNums_bytesI (s : ByteArray) : strOfNums (bytesI s) = s := by
  unfold strOfNums bytesI
  rw [List.map_map]
  have : ∀ b ∈ s.data.toList, ((fun n : Int => UInt8.ofNat n.toNat) ∘ fun b : UInt8 => (b.toNat : Int)) b = b := by
    intro b _
    simp
  rw [List.map_congr_left this, List.map_id']

theorem bytesI_append (s t : ByteArray) : bytesI (s ++ t) = bytesI s ++ bytesI t := by
  unfold bytesI
  simp

/-- '[]byte(s)': its bytes lie in new memory. -/
theorem str_to_bytes {P : Program} (w : World) (src dst e : TypeId) (s : ByteArray) (hs : P.underlying src = some .string) (hd : P.underlying dst = some (.slice e)) (he : P.underlying e = some (.int .u8)) :
    ∃ (A : Option Addr) (c : Nat) (w' : World), (convert src dst (.string s)).run P w = .ok (.slice A s.size c) w' ∧ Lies w' w'.heap.size A s.size ((bytesI s).map (Value.int .u8)) ∧ Below w.heap.size w w' := by
  refine ⟨_, _, _, run_bytes_of_string (P := P) w src dst e s hs hd he, ⟨by simp [bytesI_length], fun _ => ⟨_, rfl, ?_, fun j u hj => ?_⟩⟩, ?_⟩
  · show w.heap.size < (w.drew.alloc _).heap.size
    simp
  · have hjl : j < s.data.size := by
      have := (List.getElem?_eq_some_iff.1 hj).1
      simpa [bytesI] using this
    have hc : (⟨w.heap.size, 0, none⟩ : Addr).add j = ⟨w.heap.size, j, none⟩ := by
      unfold Addr.add
      by_cases h0 : j = 0 <;> simp [h0]
    rw [hc]
    have e1 := World.cell?_alloc_mark w.drew (bytesRow s (grownCap w s.size 0 e)) e ((bytesRow s (grownCap w s.size 0 e)).size, (bytesRow s (grownCap w s.size 0 e)).size + 1) j
    have e2 : w.drew.heap.size = w.heap.size := rfl
    rw [e2] at e1
    rw [e1, bytesRow_at s _ j hjl, ← hj]
    simp [bytesI, List.getElem?_eq_getElem (show j < s.data.toList.length by simpa using hjl)]
  · exact (Below.refl _ _).drew.alloc (Nat.le_refl _) _

theorem bytesI_inj {s t : ByteArray} (h : bytesI s = bytesI t) : s = t := by rw [← strOfNums_bytesI s, ← strOfNums_bytesI t, h]
theorem bytesI_take (s : ByteArray) (n : Nat) : bytesI (s.extract 0 n) = (bytesI s).take n := by
  unfold bytesI
  rw [Lib.extract_data, List.drop_zero, Nat.sub_zero, List.map_take]
theorem extract_ahead {t a : ByteArray} {r : List Int} (h : bytesI t = bytesI a ++ r) : t.extract 0 a.size = a := by
  apply bytesI_inj
  rw [bytesI_take, h, List.take_left' (bytesI_length a)]

theorem lies_new (w : World) (C : Array Value) (t : TypeId) (m : Nat × Nat) : Lies (w.alloc (.cells C t m)) (w.alloc (.cells C t m)).heap.size (some ⟨w.heap.size, 0, none⟩) C.size C.toList := by
  refine ⟨by simp, fun _ => ⟨_, rfl, by simp, fun j u hj => ?_⟩⟩
  have hc : (⟨w.heap.size, 0, none⟩ : Addr).add j = ⟨w.heap.size, j, none⟩ := by
    unfold Addr.add
    by_cases h0 : j = 0 <;> simp [h0]
  rw [hc]
  have e := World.cell?_alloc_mark w C t m j
  rw [e, ← hj]
  simp

theorem bytes_dec {l : List Nat} (h : (l.all fun b => decide (b < 256)) = true) : Bytes l := fun b hb => of_decide_eq_true (List.all_eq_true.1 h b hb)

/-! ### Bytes as plain numbers -/
def nats (l : List Int) : List Nat := l.map Int.toNat
theorem bytes_nats {l : List Int} (h : IsBytes l) : Bytes (nats l) := by
  intro b hb
  obtain ⟨x, hx, rfl⟩ := List.mem_map.1 hb
  have := h x hx
  omega
theorem bv_nats {l : List Int} (h : IsBytes l) : bv (nats l) = l.map (Value.int .u8) := by
  unfold bv nats
  rw [List.map_map]
  apply List.map_congr_left
  intro x hx
  have := h x hx
  simp only [Function.comp]
  rw [Int.toNat_of_nonneg (by omega)]
theorem nats_length (l : List Int) : (nats l).length = l.length := by simp [nats]
theorem nats_append (l m : List Int) : nats (l ++ m) = nats l ++ nats m := by simp [nats]
theorem nats_inj {l m : List Int} (hl : IsBytes l) (hm : IsBytes m) (h : nats l = nats m) : l = m := by
  have e : ∀ {l : List Int}, IsBytes l → (nats l).map (fun n : Nat => (n : Int)) = l := by
    intro l hl
    unfold nats
    rw [List.map_map, List.map_congr_left (g := id) (fun x hx => by
      have := hl x hx
      simp only [Function.comp, id]
      omega), List.map_id]
  rw [← e hl, ← e hm, h]
/-- The sum of a row of bytes. -/
def sumI (l : List Int) : Nat := sumS (nats l)
theorem sumI_lt {l : List Int} (h : IsBytes l) : sumI l < 4294967296 := addS_lt (by omega) (bytes_nats h)
theorem isBytes_append {l m : List Int} (h : IsBytes l) (k : IsBytes m) : IsBytes (l ++ m) := fun b hb => (List.mem_append.1 hb).elim (h b) (k b)

theorem sumI_any (n c : Nat) (A : Option Addr) (l : List Int) (w : World) (ht : TabOk w) (hA : Lies w w.heap.size A n (l.map (Value.int .u8))) (hl : IsBytes l) (hn : n ≤ 9223372036854775807) :
    Calls Tryd.prog 61 #[.slice A n c] w fun e w' => e = .returned (.int .i64 (sumI l : Nat)) ∧ Below w.heap.size w w' :=
  Sum_any n c A (nats l) w ht (by rw [bv_nats hl]; exact hA) (bytes_nats hl) hn
theorem refSumI_any (B n c : Nat) (A : Option Addr) (l : List Int) (w : World) (hA : Lies w B A n (l.map (Value.int .u8))) (hl : IsBytes l) (hn : n ≤ 9223372036854775807) :
    Calls Tryd.prog 46 #[.slice A n c] w fun e w' => e = .returned (.int .i64 (sumI l : Nat)) ∧ w = w' :=
  refSum_any B n c A (nats l) w (by rw [bv_nats hl]; exact hA) (bytes_nats hl) hn

/-- A text's cells are its bytes. -/
theorem strCells_bytesI (s : ByteArray) : Lib.strCells s = (bytesI s).map (Value.int .u8) := by
  unfold Lib.strCells bytesI
  rw [List.map_map]
  rfl
theorem bytesI_extract2 (s : ByteArray) (a b : Nat) : bytesI (s.extract a b) = ((bytesI s).drop a).take (b - a) := by
  unfold bytesI
  rw [Lib.extract_data, List.map_take, List.map_drop]

theorem str_same (a : ByteArray) : (a.toList == a.toList) = true := by simp
theorem str_diff {a b : ByteArray} (h : ¬ a = b) : (a.toList == b.toList) = false := by
  apply beq_eq_false_iff_ne.2
  intro h2
  rw [Lib.toList_data, Lib.toList_data] at h2
  exact h (bytesI_inj (by unfold bytesI; rw [h2]))

/-! ### One number, put -/
theorem put_single {X : Nat} {n : Int} {zb : List Int} {w w' : World} {e : Ending} (hf : fitsB X n = true) (h : PutPost (X : Int) zb [n] w e w') :
    ∃ v, e = .returned (.tuple #[v, .int .i64 0]) ∧ w'.ownsRow w.heap.size 5 1 v (zb.length + X) ((zb ++ enc X n).map (Value.int .u8)) ∧ Below w.heap.size w w' := by
  obtain ⟨hb, h⟩ := h
  have hm : mayB (X : Int) = true := by
    obtain ⟨⟨h1, h2⟩, _⟩ := of_fitsB hf
    exact mayB_yes h1 h2
  have hall : (mayB (X : Int) && [n].all (fitsB X)) = true := by simp [hm, hf]
  rcases h with ⟨hno, _⟩ | ⟨_, v, rfl, hown⟩
  · rw [hall] at hno; cases hno
  · refine ⟨v, rfl, ?_, hb⟩
    have e1 : encs ((X : Int)).toNat [n] = enc X n := by simp [encs]
    rw [e1] at hown
    simpa using hown
theorem Lies.alloc {w : World} {A : Option Addr} {n : Nat} {xs : List Value} (h : Lies w w.heap.size A n xs) (o : Obj) : Lies (w.alloc o) (w.alloc o).heap.size A n xs :=
  (h.below ((Below.refl _ _).alloc (Nat.le_refl _) o)).more (by simp)
theorem Lies.up {w w' : World} {B : Nat} {A : Option Addr} {n : Nat} {xs : List Value} (h : Lies w B A n xs) (hb : Below B w w') (hB : B ≤ w.heap.size) : Lies w' w'.heap.size A n xs :=
  (h.below hb).more (Nat.le_trans hB hb.size)
theorem lies_int (w : World) (t : TypeId) (n : Int) {b : Nat} (hb : w.heap.size = b) : Lies (w.alloc (.cells #[.int .i64 n] t)) (w.alloc (.cells #[.int .i64 n] t)).heap.size (some ⟨b, 0, none⟩) 1 ([n].map (Value.int .i64)) := by
  subst hb
  exact lies_new w #[.int .i64 n] t (0, 0)

end Go.Proofs.YtjdacpnfgpdjhaaDoor

/-
  Sealed sectors as rows of bytes: what is sealed, what is a sealed sector; what the test of a sector's parts says; harm. It speaks of no program.
-/
namespace Go.Proofs.YtjdacpnfgpdjhaaDoor
open Go.RowKit
set_option linter.unusedVariables false
set_option linter.unusedSimpArgs false

/-- What stands ahead of the sum. -/
def headI (k : Int) (l : List Int) : List Int := k :: (enc 2 l.length ++ l)
/-- The sealed sector of a kind and a load. -/
def sealI (k : Int) (l : List Int) : List Int := headI k l ++ enc 4 (sumI (headI k l) : Nat)
theorem headI_length (k : Int) (l : List Int) : (headI k l).length = l.length + 3 := by simp [headI, enc_length]; omega
theorem sealI_length (k : Int) (l : List Int) : (sealI k l).length = l.length + 7 := by simp [sealI, headI_length, enc_length]
theorem headI_bytes {k : Int} {l : List Int} (h0 : 0 ≤ k) (h1 : k < 256) (hl : IsBytes l) : IsBytes (headI k l) := by
  intro b hb
  rcases List.mem_cons.1 hb with rfl | hb
  · exact ⟨h0, h1⟩
  · exact isBytes_append (enc_bytes _ _) hl b hb
theorem sealI_bytes {k : Int} {l : List Int} (h0 : 0 ≤ k) (h1 : k < 256) (hl : IsBytes l) : IsBytes (sealI k l) := isBytes_append (headI_bytes h0 h1 hl) (enc_bytes _ _)

/-- A sector's parts. -/
def kindI (l : List Int) : Int := dec (l.take 1)
def loadI (l : List Int) : List Int := (l.drop 3).take (l.length - 7)
def countI (l : List Int) : Int := dec ((l.drop 1).take 2)
def lastI (l : List Int) : Int := dec ((l.drop (l.length - 4)).take 4)
/-- Is this a sealed sector? -/
def isI (l : List Int) : Bool := decide (7 ≤ l.length ∧ l.length ≤ 512 ∧ 1 ≤ kindI l ∧ kindI l ≤ 127 ∧ sealI (kindI l) (loadI l) = l)

theorem take_one {l : List Int} (h : 1 ≤ l.length) : l.take 1 = [kindI l] := by
  cases l with
  | nil => simp at h
  | cons a l => simp [kindI, dec]
theorem kind_bd {l : List Int} (hl : IsBytes l) (h : 1 ≤ l.length) : 0 ≤ kindI l ∧ kindI l < 256 := by
  have := dec_bd (isBytes_take hl 1)
  rw [List.length_take, Nat.min_eq_left h] at this
  exact this
theorem count_bd {l : List Int} (hl : IsBytes l) (h : 3 ≤ l.length) : 0 ≤ countI l ∧ countI l < 65536 := by
  have := dec_bd (isBytes_take (isBytes_drop hl 1) 2)
  rw [List.length_take, List.length_drop, Nat.min_eq_left (by omega)] at this
  exact this
theorem last_bd {l : List Int} (hl : IsBytes l) (h : 4 ≤ l.length) : 0 ≤ lastI l ∧ lastI l < 4294967296 := by
  have := dec_bd (isBytes_take (isBytes_drop hl (l.length - 4)) 4)
  rw [List.length_take, List.length_drop, Nat.min_eq_left (by omega)] at this
  exact this
theorem load_length {l : List Int} (h : 7 ≤ l.length) : (loadI l).length = l.length - 7 := by
  simp only [loadI, List.length_take, List.length_drop]; omega
theorem load_bytes {l : List Int} (hl : IsBytes l) : IsBytes (loadI l) := isBytes_take (isBytes_drop hl 3) _

/-- A row of seven or more is its parts. -/
theorem parts {l : List Int} (h : 7 ≤ l.length) : l.take (l.length - 4) = kindI l :: ((l.drop 1).take 2 ++ loadI l) := by
  have e1 : l.take (l.length - 4) = l.take 1 ++ (l.drop 1).take (l.length - 5) := by
    have : l.length - 4 = 1 + (l.length - 5) := by omega
    rw [this, List.take_add]
  have e2 : (l.drop 1).take (l.length - 5) = (l.drop 1).take 2 ++ ((l.drop 1).drop 2).take (l.length - 7) := by
    have : l.length - 5 = 2 + (l.length - 7) := by omega
    rw [this, List.take_add]
  rw [e1, e2, List.drop_drop, take_one (by omega)]
  rfl
theorem last_enc {l : List Int} (hl : IsBytes l) (h : 4 ≤ l.length) : enc 4 (lastI l) = l.drop (l.length - 4) := by
  have hlen : (l.drop (l.length - 4)).length = 4 := by rw [List.length_drop]; omega
  have := enc_dec (isBytes_drop hl (l.length - 4))
  rw [hlen] at this
  unfold lastI
  rw [List.take_of_length_le (by omega)]
  exact this
theorem count_enc {l : List Int} (hl : IsBytes l) (h : 3 ≤ l.length) : enc 2 (countI l) = (l.drop 1).take 2 := by
  have hlen : ((l.drop 1).take 2).length = 2 := by rw [List.length_take, List.length_drop]; omega
  have := enc_dec (isBytes_take (isBytes_drop hl 1) 2)
  rw [hlen] at this
  exact this
theorem seal_drop (k : Int) (l : List Int) : (sealI k l).drop (l.length + 3) = enc 4 (sumI (headI k l) : Nat) := by
  unfold sealI
  rw [List.drop_left' (headI_length k l)]
theorem seal_take (k : Int) (l : List Int) : (sealI k l).take (l.length + 3) = headI k l := by
  unfold sealI
  rw [List.take_left' (headI_length k l)]

/-- What the test of a sector's parts says. -/
theorem isI_iff {l : List Int} (hl : IsBytes l) (h7 : 7 ≤ l.length) (h5 : l.length ≤ 512) :
    isI l = true ↔ 1 ≤ kindI l ∧ kindI l ≤ 127 ∧ countI l = ((l.length - 7 : Nat) : Int) ∧ lastI l = (sumI (l.take (l.length - 4)) : Nat) := by
  have hll := load_length h7
  have hparts := parts h7
  have hhead : headI (kindI l) (loadI l) = kindI l :: (enc 2 ((l.length - 7 : Nat) : Int) ++ loadI l) := by unfold headI; rw [hll]
  have hsplit : l.take (l.length - 4) ++ l.drop (l.length - 4) = l := List.take_append_drop _ _
  unfold isI
  rw [decide_eq_true_iff]
  constructor
  · rintro ⟨_, _, h1, h2, hs⟩
    have e3 : (loadI l).length + 3 = l.length - 4 := by omega
    have t1 := seal_take (kindI l) (loadI l)
    have t2 := seal_drop (kindI l) (loadI l)
    rw [hs, e3] at t1 t2
    refine ⟨h1, h2, ?_, ?_⟩
    · have e4 : (l.take (l.length - 4)).drop 1 = (headI (kindI l) (loadI l)).drop 1 := by rw [t1]
      rw [hparts, hhead] at e4
      simp only [List.drop_succ_cons, List.drop_zero] at e4
      have e5 := List.append_inj_left e4 (by rw [List.length_take, List.length_drop, enc_length]; omega)
      unfold countI
      rw [e5]
      exact dec_enc 2 _ (by omega) (show ((l.length - 7 : Nat) : Int) < 65536 by omega)
    · rw [t1]
      unfold lastI
      rw [t2, List.take_of_length_le (by rw [enc_length]; omega)]
      have := sumI_lt (headI_bytes (kind_bd hl (by omega)).1 (kind_bd hl (by omega)).2 (load_bytes hl))
      exact dec_enc 4 _ (by omega) (show ((sumI _ : Nat) : Int) < 4294967296 by omega)
  · rintro ⟨h1, h2, h3, h4⟩
    refine ⟨h7, h5, h1, h2, ?_⟩
    have eh : headI (kindI l) (loadI l) = l.take (l.length - 4) := by
      rw [hparts, hhead, ← h3, count_enc hl (by omega)]
    unfold sealI
    rw [eh, ← h4, last_enc hl (by omega)]
    exact hsplit
theorem isI_parts {l : List Int} (h : isI l = true) : 7 ≤ l.length ∧ l.length ≤ 512 ∧ 1 ≤ kindI l ∧ kindI l ≤ 127 ∧ sealI (kindI l) (loadI l) = l := of_decide_eq_true h
theorem isI_no {l : List Int} (h : ¬ (7 ≤ l.length ∧ l.length ≤ 512)) : isI l = false := decide_eq_false (fun k => h ⟨k.1, k.2.1⟩)

/-- What was sealed is a sector, of that kind, with that load. -/
theorem kind_seal (k : Int) (l : List Int) : kindI (sealI k l) = k := by simp [kindI, sealI, headI, dec]
theorem load_seal (k : Int) (l : List Int) : loadI (sealI k l) = l := by
  unfold loadI
  rw [sealI_length]
  have e : (sealI k l).drop 3 = l ++ enc 4 (sumI (headI k l) : Nat) := by
    have e2 : (enc 2 (l.length : Int)).length = 2 := enc_length _ _
    show ((enc 2 (l.length : Int) ++ l) ++ enc 4 (sumI (headI k l) : Nat)).drop 2 = _
    rw [List.append_assoc, List.drop_left' e2]
  rw [e, List.take_left' (by omega)]
theorem isI_seal {k : Int} {l : List Int} (h1 : 1 ≤ k) (h2 : k ≤ 127) (h3 : l.length ≤ 505) : isI (sealI k l) = true := by
  unfold isI
  rw [decide_eq_true_iff, kind_seal, load_seal, sealI_length]
  exact ⟨by omega, by omega, h1, h2, rfl⟩

/-- Longer or shorter is none. -/
theorem isI_count {l : List Int} (hl : IsBytes l) (h : isI l = true) : countI l = ((l.length - 7 : Nat) : Int) := by
  obtain ⟨h7, h5, _⟩ := isI_parts h
  exact ((isI_iff hl h7 h5).1 h).2.2.1
theorem count_seal {k : Int} {l m : List Int} (h3 : l.length ≤ 505) : countI (headI k l ++ m) = (l.length : Int) := by
  unfold countI headI
  simp only [List.cons_append, List.drop_succ_cons, List.drop_zero, List.append_assoc]
  rw [List.take_left' (enc_length 2 _)]
  exact dec_enc 2 _ (by omega) (show (l.length : Int) < 65536 by omega)
theorem not_longer {k : Int} {l m : List Int} (h3 : l.length ≤ 505) (hb : IsBytes (sealI k l ++ m)) (hm : m ≠ []) : isI (sealI k l ++ m) = false := by
  rcases hh : isI (sealI k l ++ m) with _ | _
  · rfl
  · exfalso
    have h := isI_count hb hh
    have e : sealI k l ++ m = headI k l ++ (enc 4 (sumI (headI k l) : Nat) ++ m) := by unfold sealI; rw [List.append_assoc]
    rw [e, count_seal h3, ← e, List.length_append, sealI_length] at h
    have : 0 < m.length := List.length_pos_iff.2 hm
    omega
theorem not_shorter {k : Int} {l : List Int} {i : Nat} (h3 : l.length ≤ 505) (hb : IsBytes (sealI k l)) (hi : i < l.length + 7) : isI ((sealI k l).take i) = false := by
  rcases hh : isI ((sealI k l).take i) with _ | _
  · rfl
  · exfalso
    have h7 := (isI_parts hh).1
    have h := isI_count (isBytes_take hb i) hh
    rw [List.length_take, sealI_length, Nat.min_eq_left (by omega)] at h7 h
    have e : countI ((sealI k l).take i) = countI (sealI k l) := by
      unfold countI
      rw [List.drop_take, List.take_take, Nat.min_eq_left (by omega)]
    have e2 : sealI k l = headI k l ++ enc 4 (sumI (headI k l) : Nat) := rfl
    rw [e, e2, count_seal h3] at h
    omega

end Go.Proofs.YtjdacpnfgpdjhaaDoor

/-
  seal: may a parcel be sealed; its sector; Seal; and the document's own Seal: by contract.
-/
namespace Go.Proofs.YtjdacpnfgpdjhaaDoor
open Go.RowKit
set_option linter.unusedVariables false
set_option linter.unusedSimpArgs false

/-- May this be sealed? -/
def mayS (k : Int) (s : ByteArray) : Bool := decide (1 ≤ k) && decide (s.size ≤ 505)

set_option maxRecDepth 100000 in
theorem pmay_any (k : Int) (s : ByteArray) (w : World) (hs : s.size ≤ maxLen) :
    Calls Tryd.prog 40 #[.agg #[.int .i8 k, .string s]] w fun e w' => e = .returned (.bool (mayS k s)) ∧ Below w.heap.size w w' := by
  unfold maxLen at hs
  by_cases h1 : 1 ≤ k
  · go_enter Tryd.func40, Tryd.ntmps40
    go_wp2_with fail
    go_ret
    exact ⟨ret_bool (by simp [mayS, h1]; omega), (Below.refl _ _).alloc (Nat.le_refl _) _⟩
  · have h1' : k < 1 := by omega
    go_enter Tryd.func40, Tryd.ntmps40
    go_wp2_with fail
    go_ret
    exact ⟨ret_bool (by simp [mayS]; omega), (Below.refl _ _).alloc (Nat.le_refl _) _⟩

/-- A parcel in a block of its own. -/
def ParAt (w : World) (b : Nat) (T : TypeId) (k : Int) (s : ByteArray) : Prop := w.heap[b]? = some (.cells #[.int .i8 k, .string s] T (0, 0))
section
variable {w w' : World} {b B : Nat} {T : TypeId} {k : Int} {s : ByteArray}
theorem ParAt.new (w : World) (T : TypeId) (k : Int) (s : ByteArray) : ParAt (w.alloc (.cells #[.int .i8 k, .string s] T)) w.heap.size T k s := heap_alloc_new w _
theorem ParAt.lt (h : ParAt w b T k s) : b < w.heap.size := lt_of_block h
theorem ParAt.kind (h : ParAt w b T k s) : w.cell? ⟨b, 0, none⟩ = some (.int .i8 k) := by simp [World.cell?, show w.heap[b]? = _ from h]
theorem ParAt.load (h : ParAt w b T k s) : w.cell? ⟨b, 1, none⟩ = some (.string s) := by simp [World.cell?, show w.heap[b]? = _ from h]
theorem ParAt.free (h : ParAt w b T k s) (i : Nat) : w.frozen? ⟨b, i, none⟩ = false := by simp [World.frozen?, show w.heap[b]? = _ from h]
theorem ParAt.setKind (h : ParAt w b T k s) (k' : Int) : ParAt (w.setCell ⟨b, 0, none⟩ (.int .i8 k')) b T k' s := by
  have hlt := lt_of_block h
  have h' : w.heap[b] = .cells #[.int .i8 k, .string s] T (0, 0) := by simpa [Array.getElem?_eq_getElem hlt] using (show w.heap[b]? = _ from h)
  show (w.heap.modify b _)[b]? = _
  rw [Array.getElem?_eq_getElem (by simpa using hlt), Array.getElem_modify_self, h']
  rfl
theorem ParAt.setLoad (h : ParAt w b T k s) (s' : ByteArray) : ParAt (w.setCell ⟨b, 1, none⟩ (.string s')) b T k s' := by
  have hlt := lt_of_block h
  have h' : w.heap[b] = .cells #[.int .i8 k, .string s] T (0, 0) := by simpa [Array.getElem?_eq_getElem hlt] using (show w.heap[b]? = _ from h)
  show (w.heap.modify b _)[b]? = _
  rw [Array.getElem?_eq_getElem (by simpa using hlt), Array.getElem_modify_self, h']
  rfl
theorem Only.setAt (h : Only b w w') (i : Nat) (u : Value) : Only b w (w'.setCell ⟨b, i, none⟩ u) :=
  ⟨h.os, h.tape, h.output, by simpa [World.setCell] using h.size, fun j hj hne => (Below.heap_setCell w' ⟨b, i, none⟩ u j (by
    rintro rfl
    exact hne rfl)).trans (h.block j hj hne)⟩
theorem ParAt.below (h : ParAt w b T k s) (hb : Below B w w') (hB : b < B) : ParAt w' b T k s := (hb.block b hB).trans h
end

/-- The sealed sector of a kind and a load, as a text. -/
def sealS (k : Int) (s : ByteArray) : ByteArray := strOfNums (sealI k (bytesI s))
theorem sealS_size (k : Int) (s : ByteArray) : (sealS k s).size = s.size + 7 := by rw [sealS, strOfNums_size, sealI_length, bytesI_length]
theorem bytesI_sealS {k : Int} (h0 : 0 ≤ k) (h1 : k < 256) (s : ByteArray) : bytesI (sealS k s) = sealI k (bytesI s) := bytesI_strOfNums (sealI_bytes h0 h1 (bytesI_bytes s))
theorem enc_one {k : Int} (h0 : 0 ≤ k) (h1 : k < 256) : enc 1 k = [k] := by
  simp [enc]
  omega

set_option maxRecDepth 100000 in
set_option maxHeartbeats 1000000 in
theorem sector_any (k : Int) (s : ByteArray) (w : World) (h0 : 1 ≤ k) (h1 : k ≤ 127) (hs : s.size ≤ 505) (ht : TabOk w) :
    Calls Tryd.prog 41 #[.agg #[.int .i8 k, .string s]] w fun e w' => e = .returned (.string (sealS k s)) ∧ Below w.heap.size w w' := by
  obtain ⟨i0, hi, hz0, hz1, hz2⟩ := info_parts infoByte
  have hf1 : fitsB ((1 : Nat) : Int) k = true := fitsB_yes (by omega) (by omega) (by omega) (by simp [mostOf]; omega)
  have hf2 : fitsB ((2 : Nat) : Int) (s.size : Int) = true := fitsB_yes (by omega) (by omega) (by omega) (by simp [mostOf]; omega)
  have b0 : Below w.heap.size w ((w.alloc (.cells #[.int .i8 k, .string s] 81)).alloc (.cells #[.int .i64 k] 3)) := ((Below.refl _ _).alloc (Nat.le_refl _) _).alloc (by simp) _
  have p0 : ParAt ((w.alloc (.cells #[.int .i8 k, .string s] 81)).alloc (.cells #[.int .i64 k] 3)) w.heap.size 81 k s :=
    (ParAt.new w 81 k s).below ((Below.refl _ _).alloc (Nat.le_refl _) _) (by simp)
  have HF1 := Lib.hid hf1
  have HF2 := Lib.hid hf2
  clear hf1 hf2
  go_enter Tryd.func41, Tryd.ntmps41
  go_wp2_with fail
  refine (numPut_any ((1 : Nat) : Int) none (some ⟨w.heap.size + 1, 0, none⟩) 0 1 0 1 [] [k] _ Lies.nothing (lies_int _ 3 k (by simp)) (by omega) (by omega)).mono ?_
  intro e w1 hpost
  obtain ⟨v1, rfl, hown1, hb1⟩ := put_single HF1.out hpost
  have hb01 : Below w.heap.size w w1 := b0.trans (hb1.mono (by simp; omega))
  have p1 := p0.below hb1 p0.lt
  obtain ⟨A1, c1, rfl⟩ := own_shape hown1
  have hl1 := Lies.of_own hown1
  rw [List.nil_append, enc_one (by omega) (by omega)] at hl1
  clear hpost hown1 hb1 b0 p0
  have cl1 := p1.load
  go_wp2_with fail
  refine (numPut_any ((2 : Nat) : Int) A1 (some ⟨w1.heap.size, 0, none⟩) 1 1 c1 1 [k] [(s.size : Int)] _ (hl1.alloc _) (lies_int w1 3 (s.size : Int) rfl) (by omega) (by omega)).mono ?_
  intro e w2 hpost
  obtain ⟨v2, rfl, hown2, hb2⟩ := put_single HF2.out hpost
  have hb02 : Below w.heap.size w w2 := (hb01.alloc hb01.size _).trans (hb2.mono (by have := hb01.size; simp; omega))
  have p2 := (p1.below ((Below.refl _ _).alloc (Nat.le_refl _) _) p1.lt).below hb2 (by have := p1.lt; simp; omega)
  have hB2 : w.heap.size ≤ (w1.alloc (.cells #[.int .i64 (s.size : Int)] 3)).heap.size := by have := hb01.size; simp; omega
  have hB2' := hb2.size
  clear hpost hb2 hb01 p1 cl1 hl1
  generalize (w1.alloc (.cells #[.int .i64 (s.size : Int)] 3)).heap.size = B2 at *
  have cl2 := p2.load
  go_wp2_with (at_builtin; refine Lib.wpList_append_own_string w2 rfl _ _ 50 9 rfl B2 5 i0 Tryd.underlying50 Tryd.underlying9 hi hz0 hz1 hz2 _ _ _ rfl hown2 s rfl ?c1 ?c2 hB2' ?_)
  case c1 => unfold maxLen; simp; omega
  case c2 => simp; omega
  intro v3 w3 hown3 hg3 _
  have hb03 : Below w.heap.size w w3 := hb02.grown hg3 hb02.size (fun j hj => Nat.le_trans hB2 (hown2.lt j hj).1)
  have ehead : List.map (Value.int .u8) ([k] ++ enc 2 (s.size : Int)) ++ Lib.strCells s = (headI k (bytesI s)).map (Value.int .u8) := by
    rw [strCells_bytesI, ← List.map_append, headI, bytesI_length, List.append_assoc]
    rfl
  replace hown3 : w3.ownsRow B2 5 1 v3 (3 + s.size) ((headI k (bytesI s)).map (Value.int .u8)) := by
    rw [← ehead]
    exact hown3
  obtain ⟨A3, c3, rfl⟩ := own_shape hown3
  have hl3 := Lies.of_own hown3
  have hby := headI_bytes (k := k) (l := bytesI s) (by omega) (by omega) (bytesI_bytes s)
  have hlen := headI_length k (bytesI s)
  rw [bytesI_length] at hlen
  have HD : Hid (headI k (bytesI s) ++ enc 4 (sumI (headI k (bytesI s)) : Nat) = sealI k (bytesI s)) := rfl
  have hsl := sumI_lt hby
  have hn3 : 3 + s.size ≤ 9223372036854775807 := by omega
  have ht3 := ht.below hb03
  generalize 3 + s.size = n3 at *
  generalize headI k (bytesI s) = hd at *
  clear hown3 hg3 ehead hown2 hb02 p2 cl2 hB2 hB2'
  go_wp2_with fail
  refine (sumI_any n3 c3 A3 hd w3 ht3 hl3 hby hn3).mono ?_
  rintro e w4 ⟨rfl, hb4⟩
  have hb04 := hb03.trans (hb4.mono hb03.size)
  have hl4 := hl3.up hb4 (Nat.le_refl _)
  have hfs : fitsB ((4 : Nat) : Int) ((sumI hd : Nat) : Int) = true := fitsB_yes (by omega) (by omega) (by omega) (by simp [mostOf]; omega)
  have HFS := Lib.hid hfs
  clear hb4 hb03 hl3 ht3 hfs
  go_wp2_with fail
  refine (numPut_any ((4 : Nat) : Int) A3 (some ⟨w4.heap.size, 0, none⟩) n3 1 c3 1 hd [((sumI hd : Nat) : Int)] _ (hl4.alloc _) (lies_int w4 3 ((sumI hd : Nat) : Int) rfl) ?d1 (by omega)).mono ?_
  case d1 => have := hl4.1; simp at this; omega
  intro e w5 hpost
  obtain ⟨v5, rfl, hown5, hb5⟩ := put_single HFS.out hpost
  have hb05 : Below w.heap.size w w5 := (hb04.alloc hb04.size _).trans (hb5.mono (by have := hb04.size; simp; omega))
  have hconv := conv_own (P := Tryd.prog) 50 9 5 Tryd.underlying50 Tryd.underlying5 Tryd.underlying9 hown5
  rw [HD.out] at hconv
  clear hpost hb5 hown5 hb04 hl4
  go_wp2_with fail
  go_ret
  exact ⟨rfl, hb05⟩

end Go.Proofs.YtjdacpnfgpdjhaaDoor

/-
  seal: Seal, and the document's own Seal: by contract.
-/
namespace Go.Proofs.YtjdacpnfgpdjhaaDoor
open Go.RowKit
set_option linter.unusedVariables false
set_option linter.unusedSimpArgs false

/-- What Seal answers. -/
def sealVal (k : Int) (s : ByteArray) : ByteArray := if mayS k s = true then sealS k s else ⟨#[]⟩
def sealErr (k : Int) (s : ByteArray) : Int := if mayS k s = true then 0 else 2
def sealOut (k : Int) (s : ByteArray) : Ending := .returned (.tuple #[.string (sealVal k s), .int .i64 (sealErr k s)])
theorem of_mayS {k : Int} {s : ByteArray} (h : mayS k s = true) : 1 ≤ k ∧ s.size ≤ 505 := by simpa [mayS] using h
theorem mayS_yes {k : Int} {s : ByteArray} (h1 : 1 ≤ k) (h2 : s.size ≤ 505) : mayS k s = true := by simp [mayS, h1, h2]
theorem mayS_no {k : Int} {s : ByteArray} (h : ¬ (1 ≤ k ∧ s.size ≤ 505)) : mayS k s = false := by
  rcases hh : mayS k s with _ | _
  · rfl
  · exact absurd (of_mayS hh) h
theorem sealOut_yes {k : Int} {s : ByteArray} (h : mayS k s = true) : sealOut k s = .returned (.tuple #[.string (sealS k s), .int .i64 0]) := by
  simp [sealOut, sealVal, sealErr, h]
theorem sealOut_no {k : Int} {s : ByteArray} (h : mayS k s = false) : sealOut k s = .returned (.tuple #[.string ⟨#[]⟩, .int .i64 2]) := by
  simp [sealOut, sealVal, sealErr, h]

set_option maxRecDepth 100000 in
set_option maxHeartbeats 1000000 in
theorem Seal_any (k : Int) (s : ByteArray) (w : World) (h1 : k ≤ 127) (hs : s.size ≤ maxLen) (ht : TabOk w) :
    Calls Tryd.prog 24 #[.int .i8 k, .string s] w fun e w' => e = sealOut k s ∧ Below w.heap.size w w' := by
  have p0 := ParAt.new w 81 k s
  have b0 : Below w.heap.size w (w.alloc (.cells #[.int .i8 k, .string s] 81)) := (Below.refl _ _).alloc (Nat.le_refl _) _
  go_enter Tryd.func24, Tryd.ntmps24
  go_wp2_with fail
  refine (pmay_any k s _ hs).mono ?_
  rintro e w1 ⟨rfl, hb1⟩
  have p1 := p0.below hb1 p0.lt
  have hb01 := b0.trans (hb1.mono (by simp))
  have ck1 := p1.kind
  have cl1 := p1.load
  have ht1 := ht.below hb01
  clear hb1 p0 b0
  by_cases hm : mayS k s = true
  · have HO := Lib.hid (sealOut_yes hm)
    have h2 := (of_mayS hm).2
    have h0 := (of_mayS hm).1
    rw [hm]
    clear hm
    go_wp2_with fail
    refine (sector_any k s w1 h0 h1 h2 ht1).mono ?_
    rintro e w2 ⟨rfl, hb2⟩
    have hb02 := hb01.trans (hb2.mono hb01.size)
    clear hb2 hb01 p1 ck1 cl1
    go_wp2_with fail
    go_ret2
    exact ⟨HO.out.symm, hb02⟩
  · have hm' : mayS k s = false := by simpa using hm
    have HO := Lib.hid (sealOut_no hm')
    rw [hm']
    clear hm hm'
    go_wp2_with fail
    go_ret2
    exact ⟨HO.out.symm, hb01⟩

set_option maxRecDepth 100000 in
set_option maxHeartbeats 1000000 in
theorem refSeal_any (k : Int) (s : ByteArray) (w : World) (h1 : k ≤ 127) (hs : s.size ≤ maxLen) :
    Calls Tryd.prog 26 #[.int .i8 k, .string s] w fun e w' => e = sealOut k s ∧ Below w.heap.size w w' := by
  unfold maxLen at hs
  by_cases h0 : 1 ≤ k
  · by_cases h2 : s.size ≤ 505
    · have HO := Lib.hid (sealOut_yes (mayS_yes h0 h2))
      have hk : k % 256 = k := by omega
      obtain ⟨i0, hi, hz0, hz1, hz2⟩ := info_parts infoByte
      go_enter Tryd.func26, Tryd.ntmps26
      go_wp2_with fail
      refine (refPut_any ((2 : Nat) : Int) (some ⟨w.heap.size, 0, none⟩) (some ⟨w.heap.size + 1, 0, none⟩) 1 1 1 1 [k] [(s.size : Int)] _ ((lies_new w #[.int .u8 k] 5 (0, 0)).alloc _) (lies_int _ 3 (s.size : Int) (by simp)) (by omega) (by omega)).mono ?_
      intro e w1 hpost
      have hf2 : fitsB ((2 : Nat) : Int) (s.size : Int) = true := fitsB_yes (by omega) (by omega) (by omega) (by simp [mostOf]; omega)
      obtain ⟨v1, rfl, hown1, hb1⟩ := put_single hf2 hpost
      have b0 : Below w.heap.size w ((w.alloc (.cells #[.int .u8 k] 5)).alloc (.cells #[.int .i64 (s.size : Int)] 3)) := ((Below.refl _ _).alloc (Nat.le_refl _) _).alloc (by simp) _
      have hb01 : Below w.heap.size w w1 := b0.trans (hb1.mono (by simp; omega))
      have hB1 : w.heap.size ≤ ((w.alloc (.cells #[.int .u8 k] 5)).alloc (.cells #[.int .i64 (s.size : Int)] 3)).heap.size := b0.size
      have hB1' := hb1.size
      generalize ((w.alloc (.cells #[.int .u8 k] 5)).alloc (.cells #[.int .i64 (s.size : Int)] 3)).heap.size = B1 at *
      clear hpost hb1 b0 hf2
      go_wp2_with (at_builtin; refine Lib.wpList_append_own_string w1 rfl _ _ 50 9 rfl B1 5 i0 Tryd.underlying50 Tryd.underlying9 hi hz0 hz1 hz2 _ _ _ rfl hown1 s rfl ?c1 ?c2 hB1' ?_)
      case c1 => unfold maxLen; simp; omega
      case c2 => simp; omega
      intro v3 w3 hown3 hg3 _
      have hb03 : Below w.heap.size w w3 := hb01.grown hg3 hb01.size (fun j hj => Nat.le_trans hB1 (hown1.lt j hj).1)
      have hB3 : B1 ≤ w3.heap.size := Nat.le_trans hB1' hg3.size
      have ehead : List.map (Value.int .u8) ([k] ++ enc 2 (s.size : Int)) ++ Lib.strCells s = (headI k (bytesI s)).map (Value.int .u8) := by
        rw [strCells_bytesI, ← List.map_append, headI, bytesI_length, List.append_assoc]
        rfl
      replace hown3 : w3.ownsRow B1 5 1 v3 (3 + s.size) ((headI k (bytesI s)).map (Value.int .u8)) := by
        rw [← ehead]
        exact hown3
      obtain ⟨A3, c3, rfl⟩ := own_shape hown3
      have hl3 := Lies.of_own hown3
      have hby := headI_bytes (k := k) (l := bytesI s) (by omega) (by omega) (bytesI_bytes s)
      have HD : Hid (headI k (bytesI s) ++ enc 4 (sumI (headI k (bytesI s)) : Nat) = sealI k (bytesI s)) := rfl
      have hsl := sumI_lt hby
      have hn3 : 3 + s.size ≤ 600 := by omega
      generalize 3 + s.size = n3 at *
      generalize headI k (bytesI s) = hd at *
      clear hg3 ehead hown1 hb01 hB1'
      go_wp2_with fail
      refine (refSumI_any w3.heap.size n3 c3 A3 hd w3 hl3 hby (by omega)).mono ?_
      rintro e w4 ⟨rfl, rfl⟩
      generalize sumI hd = S at *
      have henc : enc 4 (S : Int) = [(S : Int) % 256, (S : Int) / 256 % 256, (S : Int) / 65536 % 256, (S : Int) / 16777216] := by
        have e1 : (S : Int) / 256 / 256 = (S : Int) / 65536 := by omega
        have e2 : (S : Int) / 65536 / 256 = (S : Int) / 16777216 := by omega
        have e3 : (S : Int) / 16777216 % 256 = (S : Int) / 16777216 := by omega
        simp [enc, e1, e2, e3]
      have HENC := Lib.hid henc
      clear henc
      go_wp2_with (at_builtin; refine wpList_append_lies rfl (.tmp 31) (.tmp 43) 50 rfl B1 5 i0 (.int .u8 0) 1 Tryd.underlying50 hi hz0 hz1 hz2 rfl _ _ _ rfl (hown3.alloc _) _ _ 4 4 _ rfl (lies_new w3 #[.int .u8 ((S : Int) % 256), .int .u8 ((S : Int) / 256 % 256), .int .u8 ((S : Int) / 65536 % 256), .int .u8 ((S : Int) / 16777216)] 5 (0, 0)) ?e1 ?e2 ?e3 ?e4 ?_)
      case e1 => simp [Value.oneCell']
      case e2 => unfold maxLen; omega
      case e3 => omega
      case e4 => simp; omega
      intro v5 w5 hown5 hg5
      have hb05 : Below w.heap.size w w5 := (hb03.alloc hb03.size _).grown hg5 (by have := hb03.size; simp; omega) (fun j hj => Nat.le_trans hB1 (hown3.lt j hj).1)
      have eall : List.map (Value.int .u8) hd ++ [.int .u8 ((S : Int) % 256), .int .u8 ((S : Int) / 256 % 256), .int .u8 ((S : Int) / 65536 % 256), .int .u8 ((S : Int) / 16777216)] = (sealI k (bytesI s)).map (Value.int .u8) := by
        rw [← HD.out, HENC.out, List.map_append]
        rfl
      replace hown5 : w5.ownsRow B1 5 1 v5 (n3 + 4) ((sealI k (bytesI s)).map (Value.int .u8)) := by
        rw [← eall]
        exact hown5
      have hconv := conv_own (P := Tryd.prog) 50 9 5 Tryd.underlying50 Tryd.underlying5 Tryd.underlying9 hown5
      clear hown5 hg5 eall hown3 hl3 HENC HD
      go_wp2_with fail
      go_ret2
      exact ⟨HO.out.symm, hb05⟩
    · have HO := Lib.hid (sealOut_no (mayS_no (k := k) (s := s) (by omega)))
      go_enter Tryd.func26, Tryd.ntmps26
      go_wp2_with fail
      go_ret2
      exact ⟨HO.out.symm, Below.refl _ _⟩
  · have h0' : k < 1 := by omega
    have HO := Lib.hid (sealOut_no (mayS_no (k := k) (s := s) (by omega)))
    clear h0
    go_enter Tryd.func26, Tryd.ntmps26
    go_wp2_with fail
    go_ret2
    exact ⟨HO.out.symm, Below.refl _ _⟩

end Go.Proofs.YtjdacpnfgpdjhaaDoor

/-
  seal: opening a sector, through a pointer: by contract.
-/
namespace Go.Proofs.YtjdacpnfgpdjhaaDoor
open Go.RowKit
set_option linter.unusedVariables false
set_option linter.unusedSimpArgs false

/-- A text's kind and load, should it be a sector. -/
def loadS (t : ByteArray) : ByteArray := t.extract 3 (t.size - 4)
theorem bytesI_loadS (t : ByteArray) : bytesI (loadS t) = loadI (bytesI t) := by
  unfold loadS loadI
  rw [bytesI_extract2, bytesI_length]
  congr 1
def isS (t : ByteArray) : Bool := isI (bytesI t)
def kindS (t : ByteArray) : Int := kindI (bytesI t)

/-- Numbers of up to five bytes fit. -/
theorem getOut_small {l : List Int} (hl : IsBytes l) {a X : Nat} (h1 : 1 ≤ X) (h5 : X ≤ 5) (h : a + X ≤ l.length) : getOut l a X = .returned (.tuple #[.int .i64 (dec ((l.drop a).take X)), .int .i64 0]) := by
  have hb := dec_bd (isBytes_take (isBytes_drop hl a) X)
  rw [List.length_take, List.length_drop, Nat.min_eq_left (by omega)] at hb
  have hm : mostOf (X : Int) = 256 ^ X - 1 := by
    have : X = 1 ∨ X = 2 ∨ X = 3 ∨ X = 4 ∨ X = 5 := by omega
    rcases this with rfl | rfl | rfl | rfl | rfl <;> rfl
  have hf : fitsB (X : Int) (dec ((l.drop a).take X)) = true := fitsB_yes (by omega) (by omega) hb.1 (by rw [hm]; omega)
  exact getOut_yes (mayB_yes (by omega) (by omega)) (by omega) (by omega) hf

/-- What opening comes to. -/
def OpenPost (b : Nat) (T : TypeId) (k0 : Int) (s0 t : ByteArray) (w : World) (e : Ending) (w' : World) : Prop :=
  Only b w w' ∧ ((isS t = true ∧ e = .returned (.bool true) ∧ ParAt w' b T (kindS t) (loadS t)) ∨ (isS t = false ∧ e = .returned (.bool false) ∧ ParAt w' b T k0 s0))

theorem openPost_no {b : Nat} {T : TypeId} {k0 : Int} {s0 t : ByteArray} {w w' : World} (h : isS t = false) (ho : Only b w w') (hp : ParAt w' b T k0 s0) : OpenPost b T k0 s0 t w (.returned (.bool false)) w' := ⟨ho, .inr ⟨h, rfl, hp⟩⟩
theorem openPost_yes {b : Nat} {T : TypeId} {k0 : Int} {s0 t : ByteArray} {w w' : World} (h : isS t = true) (ho : Only b w w') (hp : ParAt w' b T (kindS t) (loadS t)) : OpenPost b T k0 s0 t w (.returned (.bool true)) w' := ⟨ho, .inl ⟨h, rfl, hp⟩⟩
theorem isS_no {t : ByteArray} (h : ¬ (7 ≤ t.size ∧ t.size ≤ 512)) : isS t = false := isI_no (by rw [bytesI_length]; exact h)
theorem isS_iff {t : ByteArray} (h7 : 7 ≤ t.size) (h5 : t.size ≤ 512) :
    isS t = true ↔ 1 ≤ kindS t ∧ kindS t ≤ 127 ∧ countI (bytesI t) = ((t.size - 7 : Nat) : Int) ∧ lastI (bytesI t) = (sumI ((bytesI t).take (t.size - 4)) : Nat) := by
  have h := isI_iff (bytesI_bytes t) (by rw [bytesI_length]; exact h7) (by rw [bytesI_length]; exact h5)
  rw [bytesI_length] at h
  exact h
theorem isS_no_kind {t : ByteArray} (h7 : 7 ≤ t.size) (h5 : t.size ≤ 512) (h : ¬ (1 ≤ kindS t ∧ kindS t ≤ 127)) : isS t = false := by
  rcases hh : isS t with _ | _
  · rfl
  · have := (isS_iff h7 h5).1 hh
    exact absurd ⟨this.1, this.2.1⟩ h
theorem isS_no_count {t : ByteArray} (h7 : 7 ≤ t.size) (h5 : t.size ≤ 512) (h : ¬ countI (bytesI t) = ((t.size - 7 : Nat) : Int)) : isS t = false := by
  rcases hh : isS t with _ | _
  · rfl
  · exact absurd ((isS_iff h7 h5).1 hh).2.2.1 h
theorem isS_no_last {t : ByteArray} (h7 : 7 ≤ t.size) (h5 : t.size ≤ 512) (h : ¬ lastI (bytesI t) = (sumI ((bytesI t).take (t.size - 4)) : Nat)) : isS t = false := by
  rcases hh : isS t with _ | _
  · rfl
  · exact absurd ((isS_iff h7 h5).1 hh).2.2.2 h

set_option maxRecDepth 100000 in
set_option maxHeartbeats 1000000 in
theorem open_any (b : Nat) (T : TypeId) (k0 : Int) (s0 t : ByteArray) (w : World) (hp : ParAt w b T k0 s0) (hm : t.size ≤ maxLen) (ht : TabOk w) :
    Calls Tryd.prog 87 #[.pointer (some ⟨b, 0, none⟩), .string t] w (OpenPost b T k0 s0 t w) := by
  have hM := Lib.hid hm
  unfold maxLen at hm
  by_cases h7 : 7 ≤ t.size
  · by_cases h5 : t.size ≤ 512
    · have g1 := getOut_small (bytesI_bytes t) (a := 0) (X := 1) (by omega) (by omega) (by rw [bytesI_length]; omega)
      have g2 := getOut_small (bytesI_bytes t) (a := 1) (X := 2) (by omega) (by omega) (by rw [bytesI_length]; omega)
      have g3 := getOut_small (bytesI_bytes t) (a := t.size - 4) (X := 4) (by omega) (by omega) (by rw [bytesI_length]; omega)
      have e1 : dec (((bytesI t).drop 0).take 1) = kindS t := rfl
      have e2 : dec (((bytesI t).drop 1).take 2) = countI (bytesI t) := rfl
      have e3 : dec (((bytesI t).drop (t.size - 4)).take 4) = lastI (bytesI t) := by unfold lastI; rw [bytesI_length]
      rw [e1] at g1
      rw [e2] at g2
      rw [e3, show ((t.size - 4 : Nat) : Int) = (t.size : Int) - 4 by omega] at g3
      have G1 := Lib.hid g1
      have G2 := Lib.hid g2
      have G3 := Lib.hid g3
      clear g1 g2 g3 e1 e2 e3
      go_enter Tryd.func87, Tryd.ntmps87
      go_wp2_with fail
      refine (numGet_any t 0 1 w hM.out (by omega) (by omega)).mono ?_
      rintro e w1 ⟨rfl, rfl⟩
      rw [show getOut (bytesI t) 0 1 = _ from G1.out]
      go_wp2_with fail
      refine (numGet_any t 1 2 w hM.out (by omega) (by omega)).mono ?_
      rintro e w1 ⟨rfl, rfl⟩
      rw [show getOut (bytesI t) 1 2 = _ from G2.out]
      go_wp2_with fail
      refine (numGet_any t ((t.size : Int) - 4) 4 w hM.out (by omega) (by omega)).mono ?_
      rintro e w1 ⟨rfl, rfl⟩
      rw [show getOut (bytesI t) ((t.size : Int) - 4) 4 = _ from G3.out]
      have kb := kind_bd (bytesI_bytes t) (by rw [bytesI_length]; omega)
      have cb := count_bd (bytesI_bytes t) (by rw [bytesI_length]; omega)
      have lb := last_bd (bytesI_bytes t) (by rw [bytesI_length]; omega)
      have HK := Lib.hid (isS_no_kind h7 h5)
      have HC := Lib.hid (isS_no_count h7 h5)
      have HL := Lib.hid (isS_no_last h7 h5)
      have HI := Lib.hid (isS_iff h7 h5)
      have hkd : kindI (bytesI t) = kindS t := rfl
      rw [hkd] at kb
      clear G1 G2 G3 hkd
      by_cases hk1 : 1 ≤ kindS t
      · by_cases hk2 : kindS t ≤ 127
        · by_cases hc : countI (bytesI t) = (t.size : Int) - 4 - 3
          · have hcb : (countI (bytesI t) != (t.size : Int) - 4 - 3) = false := by rw [hc]; simp
            obtain ⟨A0, c0, wb, hcv, hA0, hb0⟩ := str_to_bytes (P := Tryd.prog) w 9 50 5 (t.extract 0 (t.size - 4)) Tryd.underlying9 Tryd.underlying50 Tryd.underlying5
            have hsz : (t.extract 0 (t.size - 4)).size = t.size - 4 := by rw [ByteArray.size_extract]; omega
            have hby : bytesI (t.extract 0 (t.size - 4)) = (bytesI t).take (t.size - 4) := bytesI_take t _
            have hpb := hp.below hb0 hp.lt
            have htb := ht.below hb0
            rw [hsz] at hA0 hcv
            rw [hby] at hA0
            have hbt := isBytes_take (bytesI_bytes t) (t.size - 4)
            clear hsz hby
            go_wp2_with fail
            refine (sumI_any (t.size - 4) c0 A0 ((bytesI t).take (t.size - 4)) wb htb hA0 hbt (by omega)).mono ?_
            rintro e w5 ⟨rfl, hb5⟩
            have hp5 := hpb.below hb5 hpb.lt
            have hb05 := hb0.trans (hb5.mono hb0.size)
            have ho5 := Only.of_below hb05 b
            clear hpb htb hA0 hbt hb5 hb05 hcv hb0
            by_cases hl : lastI (bytesI t) = (sumI ((bytesI t).take (t.size - 4)) : Nat)
            · have HY := HI.out.2 ⟨hk1, hk2, by omega, hl⟩
              rw [hl]
              have ck := hp5.kind
              have cl := hp5.load
              have f0 := hp5.free 0
              have f1 := hp5.free 1
              generalize sumI ((bytesI t).take (t.size - 4)) = S at *
              clear HK HC HL HI hl lb
              go_wp2_with fail
              go_ret
              exact openPost_yes HY ((ho5.setAt 0 _).setAt 1 _) ((hp5.setKind (kindS t)).setLoad (loadS t))
            · have HN := HL.out hl
              have hlb : (lastI (bytesI t) != ((sumI ((bytesI t).take (t.size - 4)) : Nat) : Int)) = true := by simpa using hl
              generalize sumI ((bytesI t).take (t.size - 4)) = S at *
              clear HK HC HL HI hl
              go_wp2_with fail
              go_ret
              exact openPost_no HN ho5 hp5
          · have hcb : (countI (bytesI t) != (t.size : Int) - 4 - 3) = true := by simpa using hc
            have HN := HC.out (by omega)
            clear HK HC HL HI hc
            go_wp2_with fail
            go_ret
            exact openPost_no HN (Only.refl _ _) hp
        · have HN := HK.out (by omega)
          clear HK HC HL HI
          go_wp2_with fail
          go_ret
          exact openPost_no HN (Only.refl _ _) hp
      · have hk1' : kindS t < 1 := by omega
        have HN := HK.out (by omega)
        clear HK HC HL HI
        go_wp2_with fail
        go_ret
        exact openPost_no HN (Only.refl _ _) hp
    · have HN := isS_no (t := t) (by omega)
      have h5' : 512 < t.size := by omega
      clear h5
      go_enter Tryd.func87, Tryd.ntmps87
      go_wp2_with fail
      go_ret
      exact openPost_no HN (Only.refl _ _) hp
  · have HN := isS_no (t := t) (by omega)
    have h7' : t.size < 7 := by omega
    clear h7
    go_enter Tryd.func87, Tryd.ntmps87
    go_wp2_with fail
    go_ret
    exact openPost_no HN (Only.refl _ _) hp

end Go.Proofs.YtjdacpnfgpdjhaaDoor

/-
  seal: Open, Of, and the document's own Open, Of: by contract.
-/
namespace Go.Proofs.YtjdacpnfgpdjhaaDoor
open Go.RowKit
set_option linter.unusedVariables false
set_option linter.unusedSimpArgs false

/-- Is this a sector of that kind? -/
def ofS (k : Int) (t : ByteArray) : Bool := isS t && decide (kindS t = k)
def OfPost (b : Nat) (T : TypeId) (k : Int) (t : ByteArray) (w : World) (e : Ending) (w' : World) : Prop :=
  Only b w w' ∧ ((ofS k t = true ∧ e = .returned (.bool true) ∧ ParAt w' b T k (loadS t)) ∨ (ofS k t = false ∧ e = .returned (.bool false)))

set_option maxRecDepth 100000 in
theorem openOf_any (b : Nat) (T : TypeId) (k0 k : Int) (s0 t : ByteArray) (w : World) (hp : ParAt w b T k0 s0) (hm : t.size ≤ maxLen) (ht : TabOk w) :
    Calls Tryd.prog 66 #[.pointer (some ⟨b, 0, none⟩), .int .i8 k, .string t] w (OfPost b T k t w) := by
  go_enter Tryd.func66, Tryd.ntmps66
  go_wp2_with fail
  refine (open_any b T k0 s0 t w hp hm ht).mono ?_
  rintro e w1 ⟨ho, h⟩
  rcases h with ⟨hs, rfl, hp1⟩ | ⟨hs, rfl, hp1⟩
  · have ck := hp1.kind
    by_cases hk : kindS t = k
    · have HO : Hid (ofS k t = true) := by show _ = _; simp [ofS, hs, hk]
      have hb : (kindS t == k) = true := by simpa using hk
      rw [hk] at ck hp1
      clear hk
      go_wp2_with fail
      go_ret
      exact ⟨ho, .inl ⟨HO.out, rfl, hp1⟩⟩
    · have HO : Hid (ofS k t = false) := by show _ = _; simp [ofS, hk]
      have hb : (kindS t == k) = false := by simpa using hk
      clear hk
      go_wp2_with fail
      go_ret
      exact ⟨ho, .inr ⟨HO.out, rfl⟩⟩
  · have HO : Hid (ofS k t = false) := by show _ = _; simp [ofS, hs]
    go_wp2_with fail
    go_ret
    exact ⟨ho, .inr ⟨HO.out, rfl⟩⟩

/-- What Open and Of answer. -/
def openOut (t : ByteArray) : Ending := if isS t = true then .returned (.tuple #[.int .i8 (kindS t), .string (loadS t), .int .i64 0]) else .returned (.tuple #[.int .i8 0, .string ⟨#[]⟩, .int .i64 30])
def ofOut (k : Int) (t : ByteArray) : Ending := if ofS k t = true then .returned (.tuple #[.string (loadS t), .int .i64 0]) else .returned (.tuple #[.string ⟨#[]⟩, .int .i64 30])
theorem openOut_yes {t : ByteArray} (h : isS t = true) : openOut t = .returned (.tuple #[.int .i8 (kindS t), .string (loadS t), .int .i64 0]) := if_pos h
theorem openOut_no {t : ByteArray} (h : isS t = false) : openOut t = .returned (.tuple #[.int .i8 0, .string ⟨#[]⟩, .int .i64 30]) := if_neg (by rw [h]; simp)
theorem ofOut_yes {k : Int} {t : ByteArray} (h : ofS k t = true) : ofOut k t = .returned (.tuple #[.string (loadS t), .int .i64 0]) := if_pos h
theorem ofOut_no {k : Int} {t : ByteArray} (h : ofS k t = false) : ofOut k t = .returned (.tuple #[.string ⟨#[]⟩, .int .i64 30]) := if_neg (by rw [h]; simp)


set_option maxRecDepth 100000 in
theorem Of_any (k : Int) (t : ByteArray) (w : World) (hm : t.size ≤ maxLen) (ht : TabOk w) :
    Calls Tryd.prog 47 #[.int .i8 k, .string t] w fun e w' => e = ofOut k t ∧ Below w.heap.size w w' := by
  have p0 := ParAt.new w 81 0 ⟨#[]⟩
  have b0 : Below w.heap.size w (w.alloc (.cells #[.int .i8 0, .string ⟨#[]⟩] 81)) := (Below.refl _ _).alloc (Nat.le_refl _) _
  have t0 := ht.alloc (.cells #[.int .i8 0, .string ⟨#[]⟩] 81)
  go_enter Tryd.func47, Tryd.ntmps47
  go_wp2_with fail
  refine (openOf_any w.heap.size 81 0 k ⟨#[]⟩ t _ p0 hm t0).mono ?_
  rintro e w1 ⟨ho, h⟩
  have hb1 := b0.trans (ho.below (by simp) (Nat.le_refl _))
  clear ho p0 b0 t0
  rcases h with ⟨hs, rfl, hp1⟩ | ⟨hs, rfl⟩
  · have HO := Lib.hid (ofOut_yes hs)
    have cl := hp1.load
    clear hp1 hs
    go_wp2_with fail
    go_ret2
    exact ⟨HO.out.symm, hb1⟩
  · have HO := Lib.hid (ofOut_no hs)
    clear hs
    go_wp2_with fail
    go_ret2
    exact ⟨HO.out.symm, hb1⟩

theorem kind_first {t : ByteArray} (h : 0 < t.size) : kindS t = ((t[0]'h).toNat : Int) := by
  have e := take_one (l := bytesI t) (by rw [bytesI_length]; exact h)
  have e2 : (bytesI t)[0]? = some ((t[0]'h).toNat : Int) := by
    simp [bytesI, h]
    rfl
  have e3 : ((bytesI t).take 1)[0]? = (bytesI t)[0]? := by rw [List.getElem?_take]; simp
  rw [e, e2] at e3
  exact Option.some.inj e3
theorem isS_seal {t : ByteArray} (h7 : 7 ≤ t.size) (h5 : t.size ≤ 512) (h1 : 1 ≤ kindS t) (h2 : kindS t ≤ 127) : isS t = true ↔ sealS (kindS t) (loadS t) = t := by
  unfold isS isI
  rw [decide_eq_true_iff, bytesI_length]
  constructor
  · rintro ⟨_, _, _, _, h⟩
    apply bytesI_inj
    rw [bytesI_sealS (by omega) (by omega), bytesI_loadS]
    exact h
  · intro h
    refine ⟨h7, h5, h1, h2, ?_⟩
    have := congrArg bytesI h
    rw [bytesI_sealS (by omega) (by omega), bytesI_loadS] at this
    exact this
theorem loadS_size {t : ByteArray} (h7 : 7 ≤ t.size) : (loadS t).size = t.size - 7 := by unfold loadS; rw [ByteArray.size_extract]; omega

set_option maxRecDepth 100000 in
set_option maxHeartbeats 1000000 in
theorem refOpen_any (t : ByteArray) (w : World) (hm : t.size ≤ maxLen) :
    Calls Tryd.prog 48 #[.string t] w fun e w' => e = openOut t ∧ Below w.heap.size w w' := by
  have hM := Lib.hid hm
  unfold maxLen at hm
  by_cases h7 : 7 ≤ t.size
  · by_cases h5 : t.size ≤ 512
    · have ek := kind_first (t := t) (by omega)
      have kb := t[0].toNat_lt
      have hpos : 0 < t.size := by omega
      by_cases hk1 : 1 ≤ t[0].toNat
      · by_cases hk2 : t[0].toNat ≤ 127
        · go_enter Tryd.func48, Tryd.ntmps48
          go_wp2_with fail
          go_quiet (fail)
          go_wp2_with fail
          refine (refSeal_any (t[0].toNat : Int) (t.extract 3 (t.size - 4)) _ (by omega) (by rw [ByteArray.size_extract]; have := hM.out; omega)).mono ?_
          rintro e w2 ⟨rfl, hb2⟩
          have hb02 : Below w.heap.size w w2 := (drewN_below w nq w.heap.size).trans hb2
          have hll := loadS_size h7
          have hll' : (t.extract 3 (t.size - 4)).size = t.size - 7 := hll
          have hsz := sealS_size (kindS t) (loadS t)
          have HSO := isS_seal h7 h5 (by omega) (by omega)
          rw [show sealOut (t[0].toNat : Int) (t.extract 3 (t.size - 4)) = .returned (.tuple #[.string (sealS (kindS t) (loadS t)), .int .i64 0]) from by
            rw [← ek]
            exact sealOut_yes (mayS_yes (by omega) (by rw [hll']; omega))]
          by_cases hst : sealS (kindS t) (loadS t) = t
          · have HO := Lib.hid (openOut_yes (HSO.2 hst))
            rw [hst]
            rw [ek, show loadS t = t.extract 3 (t.size - 4) from rfl] at HO
            clear hst HSO hsz hll hb2
            go_wp2_with fail
            go_ret3
            exact ⟨HO.out.symm, hb02⟩
          · have hn : isS t = false := by
              rcases hh : isS t with _ | _
              · rfl
              · exact absurd (HSO.1 hh) hst
            have HO := Lib.hid (openOut_no hn)
            generalize sealS (kindS t) (loadS t) = S at *
            have hbn := str_diff hst
            clear hst HSO hsz hll hb2 hn
            go_wp2_with fail
            go_ret3
            exact ⟨HO.out.symm, hb02⟩
        · have HO := Lib.hid (openOut_no (isS_no_kind h7 h5 (by omega)))
          go_enter Tryd.func48, Tryd.ntmps48
          go_wp2_with fail
          go_ret3
          exact ⟨HO.out.symm, Below.refl _ _⟩
      · have hk1' : t[0].toNat < 1 := by omega
        have HO := Lib.hid (openOut_no (isS_no_kind h7 h5 (by omega)))
        go_enter Tryd.func48, Tryd.ntmps48
        go_wp2_with fail
        go_ret3
        exact ⟨HO.out.symm, Below.refl _ _⟩
    · have HO := Lib.hid (openOut_no (isS_no (t := t) (by omega)))
      have h5' : 512 < t.size := by omega
      clear h5
      go_enter Tryd.func48, Tryd.ntmps48
      go_wp2_with fail
      go_ret3
      exact ⟨HO.out.symm, Below.refl _ _⟩
  · have HO := Lib.hid (openOut_no (isS_no (t := t) (by omega)))
    have h7' : t.size < 7 := by omega
    clear h7
    go_enter Tryd.func48, Tryd.ntmps48
    go_wp2_with fail
    go_ret3
    exact ⟨HO.out.symm, Below.refl _ _⟩

set_option maxRecDepth 100000 in
theorem refOf_any (k : Int) (t : ByteArray) (w : World) (hm : t.size ≤ maxLen) :
    Calls Tryd.prog 28 #[.int .i8 k, .string t] w fun e w' => e = ofOut k t ∧ Below w.heap.size w w' := by
  go_enter Tryd.func28, Tryd.ntmps28
  go_wp2_with fail
  refine (refOpen_any t _ hm).mono ?_
  rintro e w1 ⟨rfl, hb1⟩
  by_cases hs : isS t = true
  · rw [openOut_yes hs]
    by_cases hk : kindS t = k
    · have HO : Hid (ofOut k t = _) := ofOut_yes (by simp [ofS, hs, hk])
      have hbk : (kindS t != k) = false := by rw [hk]; simp
      clear hk hs
      go_wp2_with fail
      go_ret2
      exact ⟨HO.out.symm, hb1⟩
    · have HO : Hid (ofOut k t = _) := ofOut_no (by simp [ofS, hk])
      have hbk : (kindS t != k) = true := by simpa using hk
      clear hk hs
      go_wp2_with fail
      go_ret2
      exact ⟨HO.out.symm, hb1⟩
  · have hs' : isS t = false := by simpa using hs
    have HO : Hid (ofOut k t = _) := ofOut_no (by simp [ofS, hs'])
    rw [openOut_no hs']
    clear hs hs'
    go_wp2_with fail
    go_ret2
    exact ⟨HO.out.symm, hb1⟩

end Go.Proofs.YtjdacpnfgpdjhaaDoor

/-
  What was sealed is opened as it was, and what is opened, sealed, is the sector. It speaks of no program's function.
-/
namespace Go.Proofs.YtjdacpnfgpdjhaaDoor
open Go.RowKit
set_option linter.unusedVariables false
set_option linter.unusedSimpArgs false

theorem isS_sealS {k : Int} {s : ByteArray} (h : mayS k s = true) (h2 : k ≤ 127) : isS (sealS k s) = true := by
  obtain ⟨h1, h3⟩ := of_mayS h
  unfold isS
  rw [bytesI_sealS (by omega) (by omega)]
  exact isI_seal h1 h2 (by rw [bytesI_length]; exact h3)
theorem kindS_sealS {k : Int} (s : ByteArray) (h1 : 1 ≤ k) (h2 : k ≤ 127) : kindS (sealS k s) = k := by
  unfold kindS
  rw [bytesI_sealS (by omega) (by omega), kind_seal]
theorem loadS_sealS {k : Int} (s : ByteArray) (h1 : 1 ≤ k) (h2 : k ≤ 127) : loadS (sealS k s) = s := by
  apply bytesI_inj
  rw [bytesI_loadS, bytesI_sealS (by omega) (by omega), load_seal]
theorem open_seal {k : Int} {s : ByteArray} (h : mayS k s = true) (h2 : k ≤ 127) : openOut (sealS k s) = .returned (.tuple #[.int .i8 k, .string s, .int .i64 0]) := by
  rw [openOut_yes (isS_sealS h h2), kindS_sealS s (of_mayS h).1 h2, loadS_sealS s (of_mayS h).1 h2]
theorem seal_open {t : ByteArray} (h : isS t = true) : kindS t ≤ 127 ∧ (loadS t).size ≤ 505 ∧ sealOut (kindS t) (loadS t) = .returned (.tuple #[.string t, .int .i64 0]) := by
  obtain ⟨h7, h5, h1, h2, _⟩ := isI_parts h
  rw [bytesI_length] at h7 h5
  have hl := loadS_size h7
  have h1 : 1 ≤ kindS t := h1
  have h2 : kindS t ≤ 127 := h2
  refine ⟨h2, by omega, ?_⟩
  rw [sealOut_yes (mayS_yes h1 (by omega)), (isS_seal h7 h5 h1 h2).1 h]

end Go.Proofs.YtjdacpnfgpdjhaaDoor

/-
  Decided sectors, rows of them, last keys, over plain values. It speaks of no program's function.
-/
namespace Go.Proofs.YtjdacpnfgpdjhaaDoor
open Go.RowKit
set_option linter.unusedVariables false
set_option linter.unusedSimpArgs false

/-- A command's bytes as a text; are these a command's? -/
def cText (c : CmdM) : ByteArray := strOfNums (cEnc c)
def cIs (s : ByteArray) : Bool := cRd (bytesI s)
def cOfText (s : ByteArray) : CmdM := cCand (bytesI s)
theorem bytesI_cText {c : CmdM} (h : cMay c = true) : bytesI (cText c) = cEnc c := bytesI_strOfNums (cEnc_bytes h)
theorem cText_back {c : CmdM} (h : cMay c = true) : cIs (cText c) = true ∧ cOfText (cText c) = c := by
  unfold cIs cOfText
  rw [bytesI_cText h]
  exact ⟨(cand_enc h).2, (cand_enc h).1⟩
theorem cIs_back {s : ByteArray} (h : cIs s = true) : cMay (cOfText s) = true ∧ cText (cOfText s) = s := by
  refine ⟨(cRd_iff.1 h).2, ?_⟩
  unfold cText cOfText
  rw [enc_cand (bytesI_bytes s) h, strOfNums_bytesI]
theorem cText_inj {c d : CmdM} (hc : cMay c = true) (hd : cMay d = true) (h : cText c = cText d) : c = d := by
  rw [← (cText_back hc).2, ← (cText_back hd).2, h]
theorem cText_size {c : CmdM} (h : cMay c = true) : 11 ≤ (cText c).size ∧ (cText c).size ≤ 23 := by
  have h1 := cEnc_length c
  have h2 := cLen_bd c.kind
  have h3 : (cText c).size = (cEnc c).length := by unfold cText; rw [strOfNums_size]
  omega
theorem cIs_size {s : ByteArray} (h : cIs s = true) : 11 ≤ s.size ∧ s.size ≤ 23 := by
  obtain ⟨h1, h2⟩ := cIs_back h
  have := cText_size h1
  rw [h2] at this
  exact this
theorem cIs_take {c : CmdM} (h : cMay c = true) {n : Nat} (hn : n < (cText c).size) : cIs ((cText c).extract 0 n) = false := by
  unfold cIs
  rw [bytesI_take, bytesI_cText h]
  refine cRd_take h ?_
  have h3 : (cText c).size = (cEnc c).length := by unfold cText; rw [strOfNums_size]
  omega

/-- A decided sector. -/
def dSec (cmd : ByteArray) : ByteArray := sealS 5 cmd
def dV (cmd : ByteArray) : ByteArray := if cIs cmd = true then dSec cmd else ⟨#[]⟩
def dE (cmd : ByteArray) : Int := if cIs cmd = true then 0 else 2
def dRd (s : ByteArray) : Bool := ofS 5 s && cIs (loadS s)
theorem dRd_empty : dRd ⟨#[]⟩ = false := by
  unfold dRd ofS isS
  have : isI (bytesI ⟨#[]⟩) = false := by decide
  rw [this]
  rfl
theorem dec_sec {cmd : ByteArray} (h : cIs cmd = true) : dRd (dSec cmd) = true ∧ loadS (dSec cmd) = cmd := by
  have hz := cIs_size h
  have hm : mayS 5 cmd = true := mayS_yes (by omega) (by omega)
  have hl := loadS_sealS cmd (k := 5) (by omega) (by omega)
  refine ⟨?_, hl⟩
  unfold dRd dSec ofS
  rw [isS_sealS hm (by omega), kindS_sealS cmd (by omega) (by omega), hl, h]
  rfl
theorem sec_dec {s : ByteArray} (h : dRd s = true) : cIs (loadS s) = true ∧ dSec (loadS s) = s := by
  unfold dRd ofS at h
  rw [Bool.and_eq_true, Bool.and_eq_true, decide_eq_true_iff] at h
  obtain ⟨⟨hs, hk⟩, hc⟩ := h
  refine ⟨hc, ?_⟩
  obtain ⟨h7, h5, h1, h2, _⟩ := isI_parts hs
  rw [bytesI_length] at h7 h5
  have h1 : 1 ≤ kindS s := h1
  have h2 : kindS s ≤ 127 := h2
  unfold dSec
  rw [← hk]
  exact (isS_seal h7 h5 h1 h2).1 hs
theorem dSec_size {cmd : ByteArray} (h : cIs cmd = true) : 18 ≤ (dSec cmd).size ∧ (dSec cmd).size ≤ 30 := by
  have := cIs_size h
  unfold dSec
  rw [sealS_size]
  omega

/-! ### Rows -/
/-- The commands from the front; none where one ahead of the first that is not decided is no sector. -/
def rowO : List ByteArray → Option (List CmdM)
  | [] => some []
  | s :: r => if s = ⟨#[]⟩ then some [] else if dRd s = true then (rowO r).map (cOfText (loadS s) :: ·) else none
/-- As far as k: what was read of the first k sectors, all of them decided. -/
def rowK (l : List ByteArray) (k : Nat) : List CmdM := (l.take k).map fun s => cOfText (loadS s)
theorem rowK_succ {l : List ByteArray} {k : Nat} (h : k < l.length) : rowK l (k + 1) = rowK l k ++ [cOfText (loadS l[k])] := by
  unfold rowK
  rw [List.take_succ_eq_append_getElem h, List.map_append]
  rfl
theorem rowO_go : ∀ (l : List ByteArray) (k : Nat), k ≤ l.length → (∀ i (hi : i < l.length), i < k → dRd l[i] = true) → rowO l = (rowO (l.drop k)).map (rowK l k ++ ·)
  | l, 0, _, _ => by simp [rowK]
  | [], k + 1, h, _ => by simp at h
  | s :: r, k + 1, h, hd => by
    have h0 := hd 0 (by simp) (by omega)
    simp at h0
    have hne : ¬ s = ⟨#[]⟩ := by
      rintro rfl
      rw [dRd_empty] at h0
      cases h0
    have ih := rowO_go r k (by simpa using h) (fun i hi hk => by
      have := hd (i + 1) (by simp; omega) (by omega)
      simpa using this)
    show (if s = ⟨#[]⟩ then some [] else if dRd s = true then (rowO r).map (cOfText (loadS s) :: ·) else none) = _
    rw [if_neg hne, if_pos h0, ih, List.drop_succ_cons]
    cases rowO (r.drop k) with
    | none => rfl
    | some m => simp [rowK]
theorem rowO_stop {l : List ByteArray} {k : Nat} (hk : k < l.length) (hd : ∀ i (hi : i < l.length), i < k → dRd l[i] = true) (he : l[k] = ⟨#[]⟩) : rowO l = some (rowK l k) := by
  rw [rowO_go l k (by omega) hd, List.drop_eq_getElem_cons hk, rowO, if_pos he]
  simp
theorem rowO_bad {l : List ByteArray} {k : Nat} (hk : k < l.length) (hd : ∀ i (hi : i < l.length), i < k → dRd l[i] = true) (he : ¬ l[k] = ⟨#[]⟩) (hb : dRd l[k] = false) : rowO l = none := by
  rw [rowO_go l k (by omega) hd, List.drop_eq_getElem_cons hk, rowO, if_neg he, if_neg (by rw [hb]; simp)]
  rfl
theorem rowO_all {l : List ByteArray} (hd : ∀ i (hi : i < l.length), dRd l[i] = true) : rowO l = some (rowK l l.length) := by
  rw [rowO_go l l.length (Nat.le_refl _) (fun i hi _ => hd i hi), List.drop_length, rowO]
  simp
/-- Commands' sectors are read as they. -/
def secs (l : List CmdM) : List ByteArray := l.map fun c => dSec (cText c)
theorem secs_rd {l : List CmdM} (h : ∀ c ∈ l, cMay c = true) : ∀ i (hi : i < (secs l).length), dRd (secs l)[i] = true := fun i hi => by
  unfold secs at hi ⊢
  rw [List.getElem_map]
  exact (dec_sec (cText_back (h _ (List.getElem_mem _))).1).1
theorem secs_row {l : List CmdM} (h : ∀ c ∈ l, cMay c = true) : rowK (secs l) (secs l).length = l := by
  unfold rowK
  rw [List.take_length]
  unfold secs
  rw [List.map_map]
  have : ∀ c ∈ l, ((fun s => cOfText (loadS s)) ∘ fun c => dSec (cText c)) c = c := fun c hc => by
    have hb := cText_back (h c hc)
    show cOfText (loadS (dSec (cText c))) = c
    rw [(dec_sec hb.1).2, hb.2]
  rw [List.map_congr_left this, List.map_id']
theorem row_front {l : List CmdM} (h : ∀ c ∈ l, cMay c = true) (behind : List ByteArray) : rowO (secs l ++ ⟨#[]⟩ :: behind) = some l := by
  have hk : (secs l).length < (secs l ++ ⟨#[]⟩ :: behind).length := by simp
  rw [rowO_stop hk (fun i hi hlt => by
    rw [List.getElem_append_left hlt]
    exact secs_rd h i hlt) (by rw [List.getElem_append_right (Nat.le_refl _)]; simp)]
  congr 1
  have := secs_row h
  unfold rowK at this ⊢
  rw [List.take_append_of_le_length (Nat.le_refl _)]
  exact this
theorem row_whole {l : List CmdM} (h : ∀ c ∈ l, cMay c = true) : rowO (secs l) = some l := by rw [rowO_all (secs_rd h), secs_row h]

/-! ### Last keys -/
def lastOne (out : List Int) (b : Int) : List Int := if cKey b = true then out.set (b % 16).toNat (max (out.getD (b % 16).toNat 0) b) else out
def lastsV (l : List CmdM) : List Int := l.foldl (fun out c => lastOne out c.by_) (List.replicate 16 0)
theorem lasts_take {l : List CmdM} {k : Nat} (h : k < l.length) : lastsV (l.take (k + 1)) = lastOne (lastsV (l.take k)) l[k].by_ := by
  unfold lastsV
  rw [List.take_succ_eq_append_getElem h, List.foldl_append]
  rfl
theorem lastOne_length (out : List Int) (b : Int) : (lastOne out b).length = out.length := by
  unfold lastOne
  split <;> simp
theorem lasts_length (l : List CmdM) : (lastsV l).length = 16 := by
  unfold lastsV
  have : ∀ (l : List CmdM) (out : List Int), (l.foldl (fun out c => lastOne out c.by_) out).length = out.length := by
    intro l
    induction l with
    | nil => intro out; rfl
    | cons c l ih => intro out; rw [List.foldl_cons, ih, lastOne_length]
  rw [this]
  simp
theorem lastOne_ge (out : List Int) (b : Int) (i : Nat) : out.getD i 0 ≤ (lastOne out b).getD i 0 := by
  unfold lastOne
  split
  · rw [List.getD, List.getD, List.getElem?_set]
    split
    · rename_i e
      split
      · subst e
        rw [List.getD]
        exact Int.le_max_left _ _
      · rename_i h
        rw [List.getElem?_eq_none (by omega)]
        simp
    · exact Int.le_refl _
  · exact Int.le_refl _
theorem lasts_ge {l : List CmdM} {c : CmdM} (hc : c ∈ l) (hk : cKey c.by_ = true) : c.by_ ≤ (lastsV l).getD (c.by_ % 16).toNat 0 := by
  have key : ∀ (l : List CmdM) (out : List Int), out.length = 16 → (∀ i : Nat, out.getD i 0 ≤ (l.foldl (fun out c => lastOne out c.by_) out).getD i 0) ∧ (c ∈ l → c.by_ ≤ (l.foldl (fun out c => lastOne out c.by_) out).getD (c.by_ % 16).toNat 0) := by
    intro l
    induction l with
    | nil => intro out _; exact ⟨fun i => Int.le_refl _, fun h => by cases h⟩
    | cons d l ih =>
      intro out ho
      obtain ⟨h1, h2⟩ := ih (lastOne out d.by_) (by rw [lastOne_length]; exact ho)
      refine ⟨fun i => Int.le_trans (lastOne_ge out d.by_ i) (h1 i), fun h => ?_⟩
      rcases List.mem_cons.1 h with rfl | h
      · refine Int.le_trans ?_ (h1 _)
        have hlt : (c.by_ % 16).toNat < out.length := by
          have := Int.emod_lt_of_pos c.by_ (show (0 : Int) < 16 by decide)
          have := Int.emod_nonneg c.by_ (show (16 : Int) ≠ 0 by decide)
          omega
        unfold lastOne
        rw [if_pos hk, List.getD, List.getElem?_set_self hlt]
        exact Int.le_max_right _ _
      · exact h2 h
  exact (key l (List.replicate 16 0) (by simp)).2 hc

end Go.Proofs.YtjdacpnfgpdjhaaDoor

/-
  seal: what the document says of an empty load holds.
-/
namespace Go.Proofs.YtjdacpnfgpdjhaaDoor
open Go.RowKit
set_option linter.unusedVariables false
set_option linter.unusedSimpArgs false

theorem bd_i8 {n : Int} (h : (Lit.int .i8 n).wf = true) : -128 ≤ n ∧ n ≤ 127 := by
  have h1 : IntKind.i8.min = -128 := rfl
  have h2 : IntKind.i8.max = 127 := rfl
  simp only [Lit.wf, Bool.and_eq_true, decide_eq_true_eq] at h
  omega
theorem seal_empty : sealS 1 ⟨#[]⟩ = ⟨#[1, 0, 0, 4, 49, 37, 197]⟩ := by decide +kernel


end Go.Proofs.YtjdacpnfgpdjhaaDoor

/-
  Harm to a sealed sector, as mathematics: bits side by side, all ahead of the sum or all in it, are told.
-/
namespace Go.Proofs.YtjdacpnfgpdjhaaDoor
open Go.RowKit
set_option linter.unusedVariables false
set_option linter.unusedSimpArgs false

theorem xor_div (x y n : Nat) : (x ^^^ y) / 2 ^ n = x / 2 ^ n ^^^ y / 2 ^ n := by
  have h := Nat.shiftRight_xor_distrib (a := x) (b := y) (i := n)
  rwa [Nat.shiftRight_eq_div_pow, Nat.shiftRight_eq_div_pow, Nat.shiftRight_eq_div_pow] at h
theorem val_cons_mod {b : Nat} (l : List Nat) (hb : b < 256) : val (b :: l) % 256 = b := by
  have h := Nat.xor_mod_two_pow (a := b) (b := val l * 256) (n := 8)
  show (b ^^^ val l * 256) % 2 ^ 8 = b
  rw [h, show (2 : Nat) ^ 8 = 256 from rfl, Nat.mul_mod_left, Nat.xor_zero, Nat.mod_eq_of_lt hb]
theorem val_cons_div {b : Nat} (l : List Nat) (hb : b < 256) : val (b :: l) / 256 = val l := by
  have h := xor_div b (val l * 256) 8
  show (b ^^^ val l * 256) / 2 ^ 8 = val l
  rw [h, show (2 : Nat) ^ 8 = 256 from rfl, Nat.mul_div_cancel _ (by decide), Nat.div_eq_of_lt hb, Nat.zero_xor]
theorem val_lt {l : List Nat} (h : Bytes l) : val l < 2 ^ (8 * l.length) := by
  induction l with
  | nil => show 0 < 1; omega
  | cons b l ih =>
    have h1 := h b (by simp)
    have h2 := ih (fun c hc => h c (by simp [hc]))
    have e := val_cons_div l h1
    have hp : 2 ^ (8 * (b :: l).length) = 256 * 2 ^ (8 * l.length) := by
      rw [List.length_cons, show 8 * (l.length + 1) = 8 * l.length + 8 by omega, Nat.pow_add, Nat.mul_comm]
    rw [hp]
    have := Nat.div_add_mod (val (b :: l)) 256
    have hm := Nat.mod_lt (val (b :: l)) (show 256 > 0 by decide)
    omega
theorem val_inj {l m : List Nat} (hl : Bytes l) (hm : Bytes m) (hlen : l.length = m.length) (h : val l = val m) : l = m := by
  induction l generalizing m with
  | nil => exact (List.eq_nil_of_length_eq_zero hlen.symm).symm
  | cons b l ih =>
    cases m with
    | nil => simp at hlen
    | cons c m =>
      have b1 := hl b (by simp)
      have c1 := hm c (by simp)
      have e1 : b = c := by rw [← val_cons_mod l b1, ← val_cons_mod m c1, h]
      have e2 : val l = val m := by rw [← val_cons_div l b1, ← val_cons_div m c1, h]
      rw [e1, ih (fun x hx => hl x (by simp [hx])) (fun x hx => hm x (by simp [hx])) (by simpa using hlen) e2]
theorem val_append (l m : List Nat) : val (l ++ m) = val l ^^^ val m * 2 ^ (8 * l.length) := by
  induction l with
  | nil => show val m = 0 ^^^ val m * 2 ^ 0; rw [Nat.zero_xor, Nat.pow_zero, Nat.mul_one]
  | cons b l ih =>
    show b ^^^ val (l ++ m) * 256 = (b ^^^ val l * 256) ^^^ val m * 2 ^ (8 * (l.length + 1))
    rw [ih, show 8 * (l.length + 1) = 8 * l.length + 8 by omega, Nat.pow_add, ← Nat.mul_assoc, Nat.xor_assoc]
    congr 1
    exact shl_xor _ _ 8
theorem val_head {l m : List Nat} (h : Bytes l) : val (l ++ m) % 2 ^ (8 * l.length) = val l := by
  rw [val_append, Nat.xor_mod_two_pow, Nat.mul_mod_left, Nat.xor_zero, Nat.mod_eq_of_lt (val_lt h)]
theorem val_tail {l m : List Nat} (h : Bytes l) : val (l ++ m) / 2 ^ (8 * l.length) = val m := by
  rw [val_append, xor_div, Nat.mul_div_cancel _ (Nat.two_pow_pos _), Nat.div_eq_of_lt (val_lt h), Nat.zero_xor]

/-- Plain numbers as bytes. -/
def ints (l : List Nat) : List Int := l.map fun n : Nat => (n : Int)
theorem ints_length (l : List Nat) : (ints l).length = l.length := by simp [ints]
theorem ints_bytes {l : List Nat} (h : Bytes l) : IsBytes (ints l) := by
  intro b hb
  obtain ⟨n, hn, rfl⟩ := List.mem_map.1 hb
  have := h n hn
  omega
theorem nats_ints (l : List Nat) : nats (ints l) = l := by
  unfold nats ints
  rw [List.map_map]
  have : (Int.toNat ∘ fun n : Nat => (n : Int)) = id := by
    funext n
    simp
  rw [this, List.map_id]
theorem ints_nats {l : List Int} (h : IsBytes l) : ints (nats l) = l := nats_inj (ints_bytes (bytes_nats h)) h (nats_ints _)
theorem ints_append (l m : List Nat) : ints (l ++ m) = ints l ++ ints m := by simp [ints]

theorem dec_inj {l m : List Int} (hl : IsBytes l) (hm : IsBytes m) (hlen : l.length = m.length) (h : dec l = dec m) : l = m := by
  rw [← enc_dec hl, ← enc_dec hm, hlen, h]
theorem last_append {h t : List Int} (ht : t.length = 4) : lastI (h ++ t) = dec t := by
  unfold lastI
  rw [List.length_append, ht, Nat.add_sub_cancel, List.drop_left, List.take_of_length_le (by omega)]

theorem harm_iff {k : Int} {l : List Int} (hk1 : 1 ≤ k) (hk2 : k ≤ 127) (hl : IsBytes l) (hl5 : l.length ≤ 505) {c : List Nat} (hcb : Bytes c) (hcl : c.length = l.length + 7) {v i f : Nat}
    (hv : val c = val (nats (sealI k l)) ^^^ v % 2 ^ i * 2 ^ f) (hi : i ≤ 32) (hcase : f + i ≤ 8 * (l.length + 3) ∨ (8 * (l.length + 3) ≤ f ∧ f + i ≤ 8 * (l.length + 7))) :
    isI (ints c) = decide (v % 2 ^ i = 0) := by
  have hsb : IsBytes (sealI k l) := sealI_bytes (by omega) (by omega) hl
  have hslen := sealI_length k l
  by_cases hz : v % 2 ^ i = 0
  · rw [decide_eq_true hz]
    rw [hz, Nat.zero_mul, Nat.xor_zero] at hv
    have e : c = nats (sealI k l) := val_inj hcb (bytes_nats hsb) (by rw [nats_length, hslen, hcl]) hv
    rw [e, ints_nats hsb]
    exact isI_seal hk1 hk2 hl5
  · rw [decide_eq_false hz]
    rcases hh : isI (ints c) with _ | _
    · rfl
    · exfalso
      -- the two rows' parts
      have hhb : IsBytes (headI k l) := headI_bytes (by omega) (by omega) hl
      have hhl := headI_length k l
      have hch : c = c.take (l.length + 3) ++ c.drop (l.length + 3) := (List.take_append_drop _ _).symm
      have hhc : (c.take (l.length + 3)).length = l.length + 3 := by rw [List.length_take]; omega
      have htc : (c.drop (l.length + 3)).length = 4 := by rw [List.length_drop]; omega
      have hhcb : Bytes (c.take (l.length + 3)) := fun b hb => hcb b (List.mem_of_mem_take hb)
      have htcb : Bytes (c.drop (l.length + 3)) := fun b hb => hcb b (List.mem_of_mem_drop hb)
      generalize c.take (l.length + 3) = hc at *
      generalize c.drop (l.length + 3) = tc at *
      have hsplit : nats (sealI k l) = nats (headI k l) ++ nats (enc 4 (sumI (headI k l) : Nat)) := by unfold sealI; rw [nats_append]
      have hhn : (nats (headI k l)).length = l.length + 3 := by rw [nats_length, hhl]
      have hhnb := bytes_nats hhb
      have htn : (nats (enc 4 (sumI (headI k l) : Nat))).length = 4 := by rw [nats_length, enc_length]
      have htnb := bytes_nats (enc_bytes 4 (sumI (headI k l) : Nat))
      have hsum : ((sumI (headI k l) : Nat) : Int) = dec (enc 4 (sumI (headI k l) : Nat)) := by
        have := sumI_lt hhb
        exact (dec_enc 4 _ (by omega) (show ((sumI (headI k l) : Nat) : Int) < 4294967296 by omega)).symm
      -- what a sector says of the harmed row
      have hlast : dec (ints tc) = ((sumS hc : Nat) : Int) := by
        have h := ((isI_iff (ints_bytes hcb) (by rw [ints_length]; omega) (by rw [ints_length]; omega)).1 hh).2.2.2
        rw [ints_length, hcl, show l.length + 7 - 4 = l.length + 3 by omega] at h
        rw [hch, ints_append] at h
        rw [last_append (by rw [ints_length]; exact htc), List.take_left' (by rw [ints_length]; exact hhc)] at h
        rw [h]
        unfold sumI
        rw [nats_ints]
      have hvh := val_head (m := tc) hhcb
      have hvt := val_tail (m := tc) hhcb
      rw [← hch, hhc, hv, hsplit] at hvh hvt
      rw [xor_div, ← hhn, val_tail hhnb] at hvt
      rw [Nat.xor_mod_two_pow, ← hhn, val_head hhnb] at hvh
      rw [hhn] at hvh hvt
      have hD : v % 2 ^ i < 2 ^ i := Nat.mod_lt _ (Nat.two_pow_pos _)
      rcases hcase with h1 | ⟨h1, h2⟩
      · -- all ahead of the sum
        have hE : v % 2 ^ i * 2 ^ f < 2 ^ (8 * (l.length + 3)) := by
          have e1 : v % 2 ^ i * 2 ^ f < 2 ^ i * 2 ^ f := Nat.mul_lt_mul_of_pos_right hD (Nat.two_pow_pos _)
          rw [← Nat.pow_add, Nat.add_comm] at e1
          exact Nat.lt_of_lt_of_le e1 (Nat.pow_le_pow_right (by decide) h1)
        rw [Nat.div_eq_of_lt hE, Nat.xor_zero] at hvt
        rw [Nat.mod_eq_of_lt hE] at hvh
        have et : nats (enc 4 (sumI (headI k l) : Nat)) = tc := val_inj htnb htcb (by rw [htn, htc]) hvt
        rw [← et, ints_nats (enc_bytes _ _), ← hsum] at hlast
        have hs : sumS hc = sumS (nats (headI k l)) := by
          have h : ((sumI (headI k l) : Nat) : Int) = ((sumS hc : Nat) : Int) := hlast
          have h' : sumI (headI k l) = sumS hc := by omega
          exact h'.symm
        exact hz ((harm_sum (by rw [hhc, hhn]) hvh.symm hi (by rw [hhn]; omega)).1 hs)
      · -- all in the sum
        obtain ⟨g, rfl⟩ : ∃ g, f = 8 * (l.length + 3) + g := ⟨f - 8 * (l.length + 3), by omega⟩
        have hE : v % 2 ^ i * 2 ^ (8 * (l.length + 3) + g) = v % 2 ^ i * 2 ^ g * 2 ^ (8 * (l.length + 3)) := by
          rw [Nat.pow_add, Nat.mul_comm (2 ^ (8 * (l.length + 3))), Nat.mul_assoc]
        rw [hE, Nat.mul_mod_left, Nat.xor_zero] at hvh
        rw [hE, Nat.mul_div_cancel _ (Nat.two_pow_pos _)] at hvt
        have eh : nats (headI k l) = hc := val_inj hhnb hhcb (by rw [hhn, hhc]) hvh
        have hs : dec (ints tc) = dec (enc 4 (sumI (headI k l) : Nat)) := by
          rw [hlast, ← eh]
          exact hsum
        have et : ints tc = enc 4 (sumI (headI k l) : Nat) := dec_inj (ints_bytes htcb) (enc_bytes _ _) (by rw [ints_length, htc, enc_length]) hs
        have et2 : tc = nats (enc 4 (sumI (headI k l) : Nat)) := by rw [← et, nats_ints]
        rw [← et2] at hvt
        have hcan : v % 2 ^ i * 2 ^ g = 0 := by
          have h := congrArg (fun x => val tc ^^^ x) hvt
          rw [xcan, Nat.xor_self] at h
          exact h
        rcases Nat.mul_eq_zero.1 hcan with h | h
        · exact hz h
        · exact absurd h (Nat.ne_of_gt (Nat.two_pow_pos g))

end Go.Proofs.YtjdacpnfgpdjhaaDoor

/-
  '[]byte(s)' that is written to: the block of the new bytes, what its cells hold, a byte stored.
-/
namespace Go.Proofs.YtjdacpnfgpdjhaaDoor
open Go.RowKit
set_option linter.unusedVariables false
set_option linter.unusedSimpArgs false

/-- The block g begins with these bytes, and none of them is frozen. -/
def FreshAt (w : World) (g : Nat) (e : TypeId) (cs : List Nat) : Prop := ∃ cur hi, w.heap[g]? = some (.cells cur e (cur.size, hi)) ∧ cs.length ≤ cur.size ∧ cur.toList.take cs.length = bv cs

section
variable {w w' : World} {g B : Nat} {e : TypeId} {cs : List Nat}
theorem FreshAt.lt (h : FreshAt w g e cs) : g < w.heap.size := by
  obtain ⟨cur, hi, h1, _⟩ := h
  exact lt_of_block h1
theorem FreshAt.cell (h : FreshAt w g e cs) {j : Nat} (hj : j < cs.length) : w.cell? ⟨g, j, none⟩ = some (.int .u8 (cs[j] : Int)) := by
  obtain ⟨cur, hi, h1, h2, h3⟩ := h
  have e1 : w.cell? ⟨g, j, none⟩ = cur[j]? := by simp [World.cell?, h1]
  have e2 : (cur.toList.take cs.length)[j]? = cur[j]? := by rw [List.getElem?_take, if_pos hj, Array.getElem?_toList]
  rw [e1, ← e2, h3, bv_at hj]
theorem FreshAt.free (h : FreshAt w g e cs) {j : Nat} (hj : j < cs.length) : w.frozen? ⟨g, j, none⟩ = false := by
  obtain ⟨cur, hi, h1, h2, h3⟩ := h
  simp [World.frozen?, h1]
  omega
theorem FreshAt.lies (h : FreshAt w g e cs) : Lies w w.heap.size (some ⟨g, 0, none⟩) cs.length (bv cs) := by
  refine ⟨bv_length cs, fun _ => ⟨_, rfl, h.lt, fun j u hj => ?_⟩⟩
  have hjl : j < cs.length := by
    have := (List.getElem?_eq_some_iff.1 hj).1
    rwa [bv_length] at this
  have hc : (⟨g, 0, none⟩ : Addr).add j = ⟨g, j, none⟩ := by
    unfold Addr.add
    by_cases h0 : j = 0 <;> simp [h0]
  rw [hc, h.cell hjl, ← hj, bv_at hjl]
theorem FreshAt.set (h : FreshAt w g e cs) (j b : Nat) : FreshAt (w.setCell ⟨g, j, none⟩ (.int .u8 (b : Int))) g e (cs.set j b) := by
  obtain ⟨cur, hi, h1, h2, h3⟩ := h
  have hlt := lt_of_block h1
  have h' : w.heap[g] = .cells cur e (cur.size, hi) := by simpa [Array.getElem?_eq_getElem hlt] using h1
  refine ⟨cur.setIfInBounds j (.int .u8 (b : Int)), hi, ?_, by rw [List.length_set]; simpa using h2, ?_⟩
  · show (w.heap.modify g _)[g]? = _
    rw [Array.getElem?_eq_getElem (by simpa using hlt), Array.getElem_modify_self, h']
    simp
  · rw [Array.toList_setIfInBounds, List.length_set, List.take_set, h3]
    exact List.map_set.symm
theorem FreshAt.below (h : FreshAt w g e cs) (hb : Below B w w') (hg : g < B) : FreshAt w' g e cs := by
  obtain ⟨cur, hi, h1, h2, h3⟩ := h
  exact ⟨cur, hi, (hb.block g hg).trans h1, h2, h3⟩
theorem below_set (h : Below B w w') (hg : B ≤ g) (j : Nat) (u : Value) : Below B w (w'.setCell ⟨g, j, none⟩ u) :=
  ⟨h.os, h.tape, h.output, by simpa [World.setCell] using h.size, fun k hk => (Below.heap_setCell w' ⟨g, j, none⟩ u k (by show k ≠ g; omega)).trans (h.block k hk)⟩
end

theorem own_below {w w' : World} {base n : Nat} {e : TypeId} {v : Value} {xs : List Value} (h : w.ownsRow base e 1 v n xs) (hb : Below w.heap.size w w') : w'.ownsRow base e 1 v n xs := by
  refine ⟨h.1, ?_⟩
  rcases h.2 with h0 | ⟨g, cap, cur, h1, h2, h3, h4⟩
  · exact .inl h0
  · exact .inr ⟨g, cap, cur, h1, h2, (hb.block g (lt_of_block h3)).trans h3, h4⟩

/-- '[]byte(s)'. -/
theorem str_fresh {P : Program} (w : World) (src dst e : TypeId) (s : ByteArray) (hs : P.underlying src = some .string) (hd : P.underlying dst = some (.slice e)) (he : P.underlying e = some (.int .u8)) :
    ∃ (c : Nat) (w' : World), (convert src dst (.string s)).run P w = .ok (.slice (some ⟨w.heap.size, 0, none⟩) s.size c) w' ∧ FreshAt w' w.heap.size e (nats (bytesI s)) ∧ Below w.heap.size w w' := by
  refine ⟨_, _, run_bytes_of_string (P := P) w src dst e s hs hd he, ⟨bytesRow s (grownCap w s.size 0 e), (bytesRow s (grownCap w s.size 0 e)).size + 1, ?_, ?_, ?_⟩, ?_⟩
  · have h := heap_alloc_new w.drew (.cells (bytesRow s (grownCap w s.size 0 e)) e ((bytesRow s (grownCap w s.size 0 e)).size, (bytesRow s (grownCap w s.size 0 e)).size + 1))
    exact h
  · rw [nats_length, bytesI_length]
    generalize grownCap w s.size 0 e = cap
    unfold bytesRow
    rw [Array.size_append, Array.size_map]
    exact Nat.le_add_right _ _
  · rw [bv_nats (bytesI_bytes s), nats_length, bytesI_length]
    generalize grownCap w s.size 0 e = cap
    unfold bytesRow bytesI
    rw [Array.toList_append, List.take_left' (by rw [Array.toList_map, List.length_map, Array.length_toList]; rfl), Array.toList_map, List.map_map]
    rfl
  · exact (Below.refl _ _).drew.alloc (Nat.le_refl _) _

end Go.Proofs.YtjdacpnfgpdjhaaDoor

/-
  One bit of a sealed sector turned about, in a fresh row of its bytes: it is none any more.
-/
namespace Go.Proofs.YtjdacpnfgpdjhaaDoor
open Go.RowKit
set_option linter.unusedVariables false
set_option linter.unusedSimpArgs false

/-- '((x % m) + m) % m' is from 0 to m - 1. -/
theorem turn_rest (x : Int) (m : Nat) (hm : 0 < m) (h2 : m ≤ 1000000) : ∃ n : Nat, n < m ∧ (wrap64 (x.tmod m + m)).tmod m = (n : Int) := by
  have h1 := Int.lt_tmod_of_pos x (show (0 : Int) < m by omega)
  have h3 := Int.tmod_lt_of_pos x (show (0 : Int) < m by omega)
  rw [IntWalk.wrap64_in _ ⟨by omega, by omega⟩]
  have h4 := Int.tmod_nonneg (m : Int) (show 0 ≤ x.tmod m + m by omega)
  have h5 := Int.tmod_lt_of_pos (x.tmod m + m) (show (0 : Int) < m by omega)
  exact ⟨((x.tmod m + m).tmod m).toNat, by omega, by omega⟩
theorem turn_u8 (q j : Nat) (hq : q < 256) (hj : j < 8) : bits .xor .u8 (q : Int) (2 ^ j % 256) = ((q ^^^ 2 ^ j : Nat) : Int) := by
  have hp : 2 ^ j < 256 := Nat.pow_lt_pow_right (a := 2) (by decide) hj
  have e : (2 : Int) ^ j % 256 = ((2 ^ j : Nat) : Int) := by
    have h : ((2 : Int) ^ j) = ((2 ^ j : Nat) : Int) := by rw [Int.natCast_pow]; rfl
    rw [h]
    exact Int.emod_eq_of_lt (Int.natCast_nonneg _) (Int.ofNat_lt.2 hp)
  rw [e, u8_xor_nat q _ hq hp]
/-- The bytes with one bit turned about; as a text. -/
def turnL (cs : List Nat) (n : Nat) : List Nat := cs.set (n / 8) (cs.getD (n / 8) 0 ^^^ 2 ^ (n % 8))
def turnS (t : ByteArray) (n : Nat) : ByteArray := strOfNums (ints (turnL (nats (bytesI t)) n))
theorem turnL_length (cs : List Nat) (n : Nat) : (turnL cs n).length = cs.length := by unfold turnL; rw [List.length_set]
theorem turnL_bytes {cs : List Nat} (h : Bytes cs) {n : Nat} (hn : n / 8 < cs.length) : Bytes (turnL cs n) := by
  intro x hx
  rcases List.mem_or_eq_of_mem_set hx with h1 | h1
  · exact h x h1
  · rw [h1, List.getD, List.getElem?_eq_getElem hn]
    have hq := h _ (List.getElem_mem hn)
    have hp : 2 ^ (n % 8) < 2 ^ 8 := Nat.pow_lt_pow_right (by decide) (Nat.mod_lt _ (by decide))
    exact Nat.xor_lt_two_pow (n := 8) (by simpa using hq) hp
theorem turnL_val {cs : List Nat} {n : Nat} (hn : n / 8 < cs.length) : val (turnL cs n) = val cs ^^^ 1 % 2 ^ 1 * 2 ^ n := by
  unfold turnL
  rw [List.getD, List.getElem?_eq_getElem hn, Option.getD_some, val_set, bit_place]
  rw [show 1 % 2 ^ 1 = 1 from rfl, Nat.one_mul]
theorem turnS_size (t : ByteArray) (n : Nat) : (turnS t n).size = t.size := by unfold turnS; rw [strOfNums_size, ints_length, turnL_length, nats_length, bytesI_length]
theorem turn_isS {k : Int} {s : ByteArray} (hk1 : 1 ≤ k) (hk2 : k ≤ 127) (hs : s.size ≤ 505) {n : Nat} (hn : n < 8 * (sealS k s).size) : isS (turnS (sealS k s) n) = false := by
  have hsz := sealS_size k s
  have hl : n / 8 < (nats (bytesI (sealS k s))).length := by rw [nats_length, bytesI_length]; omega
  have hcb := turnL_bytes (bytes_nats (bytesI_bytes (sealS k s))) hl
  have hv := turnL_val hl
  have hcl := turnL_length (nats (bytesI (sealS k s))) n
  unfold isS turnS
  rw [bytesI_strOfNums (ints_bytes hcb)]
  generalize turnL (nats (bytesI (sealS k s))) n = c at *
  rw [bytesI_sealS (by omega) (by omega)] at hv hcl
  rw [nats_length, sealI_length] at hcl
  rw [harm_iff hk1 hk2 (bytesI_bytes s) (by rw [bytesI_length]; exact hs) hcb hcl hv (by omega) (by rw [bytesI_length]; omega)]
  rfl
/-- A fresh row of a text's bytes, a bit of which is turned about: it is converted to the turned text. -/
theorem turn_conv {wr : World} {g c m : Nat} {t : ByteArray} {n : Nat} (h : FreshAt wr g 5 (nats (bytesI t))) (hn : n < 8 * t.size) (hm : t.size = m) :
    (convert 50 9 (.slice (some ⟨g, 0, none⟩) m c)).run Tryd.prog (wr.setCell ⟨g, n / 8, none⟩ (.int .u8 (bits .xor .u8 (((nats (bytesI t)).getD (n / 8) 0 : Nat) : Int) (2 ^ (n % 8) % 256)))) = .ok (.string (turnS t n)) (wr.setCell ⟨g, n / 8, none⟩ (.int .u8 (bits .xor .u8 (((nats (bytesI t)).getD (n / 8) 0 : Nat) : Int) (2 ^ (n % 8) % 256)))) := by
  have hl : n / 8 < (nats (bytesI t)).length := by rw [nats_length, bytesI_length]; omega
  have hlen : (nats (bytesI t)).length = m := by rw [nats_length, bytesI_length, hm]
  have hq : (nats (bytesI t)).getD (n / 8) 0 < 256 := by
    rw [List.getD, List.getElem?_eq_getElem hl]
    exact bytes_nats (bytesI_bytes t) _ (List.getElem_mem hl)
  rw [turn_u8 _ _ hq (Nat.mod_lt _ (by decide))]
  have hf := h.set (n / 8) ((nats (bytesI t)).getD (n / 8) 0 ^^^ 2 ^ (n % 8))
  have hlies := hf.lies
  rw [List.length_set, hlen] at hlies
  have e : bv ((nats (bytesI t)).set (n / 8) ((nats (bytesI t)).getD (n / 8) 0 ^^^ 2 ^ (n % 8))) = (ints (turnL (nats (bytesI t)) n)).map (Value.int .u8) := by
    unfold bv ints turnL
    rw [List.map_map]
    rfl
  rw [e] at hlies
  exact conv_lies 50 9 5 Tryd.underlying50 Tryd.underlying5 Tryd.underlying9 hlies

end Go.Proofs.YtjdacpnfgpdjhaaDoor
