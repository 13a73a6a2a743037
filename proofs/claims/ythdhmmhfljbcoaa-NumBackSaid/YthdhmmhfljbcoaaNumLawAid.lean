/-
  What the laws share: Put's outcome in one form, whichever it is.
-/
import Derived.Test.YthdhmmhfljbcoaaNumInts
namespace Go.Proofs.Ythdhmmhfljbcoaa
open Go.RowKit
set_option linter.unusedVariables false
set_option linter.unusedSimpArgs false

/-- What the frames are told of a slice of numbers that came in. -/
def IsRow (k : IntKind) (w : World) (a : Option Addr) (len cap : Nat) (zs : List Int) : Prop :=
  (a = none ∧ len = 0 ∧ cap = 0 ∧ zs = []) ∨
  ∃ x : Addr, a = some x ∧ len ≤ cap ∧ cap ≤ maxLen ∧ zs.length = cap ∧ (∀ i, i < zs.length → w.cell? (x.add i) = some (.int k (zs.getD i 0))) ∧ ∀ n ∈ zs, (Lit.int k n).wf = true

/-- Are these numbers of that width? -/
def okP (x : Int) (zl : List Int) : Bool := mayB x && zl.all (fitsB x)
def errP (x : Int) (zl : List Int) : Int := if okP x zl = true then 0 else 2
def bytesP (x : Int) (zb zl : List Int) : List Int := if okP x zl = true then zb ++ encs x.toNat zl else []

theorem okP_append (x : Int) (l m : List Int) : okP x (l ++ m) = (okP x l && okP x m) := by
  simp only [okP, List.all_append]
  cases mayB x <;> simp
theorem errP_yes {x : Int} {zl : List Int} (h : okP x zl = true) : errP x zl = 0 := by rw [errP, if_pos h]
theorem errP_no {x : Int} {zl : List Int} (h : okP x zl = false) : errP x zl = 2 := by rw [errP, if_neg (by rw [h]; simp)]
theorem bytesP_yes {x : Int} {zb zl : List Int} (h : okP x zl = true) : bytesP x zb zl = zb ++ encs x.toNat zl := by rw [bytesP, if_pos h]
theorem bytesP_no {x : Int} {zb zl : List Int} (h : okP x zl = false) : bytesP x zb zl = [] := by rw [bytesP, if_neg (by rw [h]; simp)]
theorem okP_width {x : Int} {zl : List Int} (h : okP x zl = true) : 1 ≤ x ∧ x ≤ 6 := by
  rw [okP, Bool.and_eq_true] at h
  exact of_mayB h.1
theorem okP_at {x : Int} {zl : List Int} (h : okP x zl = true) {n : Int} (hn : n ∈ zl) : fitsB x n = true := by
  rw [okP, Bool.and_eq_true] at h
  exact List.all_eq_true.1 h.2 n hn
theorem bytesP_len {x : Int} {zb zl : List Int} : (bytesP x zb zl).length ≤ zb.length + 6 * zl.length := by
  by_cases h : okP x zl = true
  · rw [bytesP_yes h, List.length_append, encs_length]
    have := Nat.mul_le_mul_right zl.length (show x.toNat ≤ 6 by have := okP_width h; omega)
    omega
  · rw [bytesP_no (by simpa using h)]; simp
theorem bytesP_bytes {x : Int} {zb zl : List Int} (hb : IsBytes zb) : IsBytes (bytesP x zb zl) := by
  by_cases h : okP x zl = true
  · rw [bytesP_yes h]
    intro b hb'
    rcases List.mem_append.1 hb' with h' | h'
    · exact hb b h'
    · exact encs_bytes _ _ b h'
  · rw [bytesP_no (by simpa using h)]; intro b hb'; simp at hb'

theorem put_one {x : Int} {zb zl : List Int} {w : World} {e : Ending} {w' : World} (h : PutPost x zb zl w e w') :
    Below w.heap.size w w' ∧ ∃ (A : Option Addr) (c : Nat), e = .returned (.tuple #[.slice A (bytesP x zb zl).length c, .int .i64 (errP x zl)]) ∧ Lies w' w'.heap.size A (bytesP x zb zl).length ((bytesP x zb zl).map (Value.int .u8)) := by
  obtain ⟨hb, h⟩ := h
  refine ⟨hb, ?_⟩
  rcases h with ⟨h, rfl⟩ | ⟨h, v, rfl, hown⟩
  · have h' : okP x zl = false := h
    rw [errP_no h', bytesP_no h']
    exact ⟨none, 0, rfl, Lies.nothing⟩
  · have h' : okP x zl = true := h
    rw [errP_yes h', bytesP_yes h']
    obtain ⟨A, c, rfl⟩ := own_shape hown
    have hl := Lies.of_own hown
    have e : zb.length + x.toNat * zl.length = (zb ++ encs x.toNat zl).length := by rw [List.length_append, encs_length]
    rw [e] at hl ⊢
    exact ⟨A, c, rfl, hl⟩

/-- The same, the numbers behind names: their meaning is hidden. -/
theorem put_named {x : Int} {zb zl : List Int} {w : World} {e : Ending} {w' : World} (h : PutPost x zb zl w e w') :
    Below w.heap.size w w' ∧ ∃ (A : Option Addr) (n c : Nat) (err : Int) (zs : List Int), e = .returned (.tuple #[.slice A n c, .int .i64 err]) ∧ Hid (err = errP x zl) ∧ Hid (zs = bytesP x zb zl) ∧ Hid (zs.length = n) ∧ Lies w' w'.heap.size A n (zs.map (Value.int .u8)) := by
  obtain ⟨hb, A, c, he, hl⟩ := put_one h
  exact ⟨hb, A, _, c, _, _, he, rfl, rfl, rfl, hl⟩

/-- The error alone: nothing or ErrArg. -/
theorem err_cases {x : Int} {zl : List Int} {err : Int} (h : Hid (err = errP x zl)) : (okP x zl = true ∧ err = 0) ∨ (okP x zl = false ∧ err = 2) := by
  have h := h.out
  by_cases ho : okP x zl = true
  · exact .inl ⟨ho, h.trans (errP_yes ho)⟩
  · have ho' : okP x zl = false := by simpa using ho
    exact .inr ⟨ho', h.trans (errP_no ho')⟩

theorem three_errs {x : Int} {zl zm : List Int} {e1 e2 e5 : Int} (H1 : Hid (e1 = errP x zl)) (H2 : Hid (e2 = errP x zm)) (H5 : Hid (e5 = errP x (zl ++ zm))) :
    (e1 = 0 ∧ e2 = 0 ∧ e5 = 0 ∧ okP x zl = true ∧ okP x zm = true) ∨ (e1 = 2 ∧ e5 = 2) ∨ (e1 = 0 ∧ e2 = 2 ∧ e5 = 2) := by
  have hboth := okP_append x zl zm
  rcases err_cases H1 with ⟨o1, r1⟩ | ⟨o1, r1⟩
  · rcases err_cases H2 with ⟨o2, r2⟩ | ⟨o2, r2⟩
    · rw [o1, o2] at hboth
      rcases err_cases H5 with ⟨o5, r5⟩ | ⟨o5, r5⟩
      · exact .inl ⟨r1, r2, r5, o1, o2⟩
      · rw [o5] at hboth; cases hboth
    · rw [o1, o2] at hboth
      rcases err_cases H5 with ⟨o5, r5⟩ | ⟨o5, r5⟩
      · rw [o5] at hboth; cases hboth
      · exact .inr (.inr ⟨r1, r2, r5⟩)
  · rw [o1] at hboth
    rcases err_cases H5 with ⟨o5, r5⟩ | ⟨o5, r5⟩
    · rw [o5] at hboth; cases hboth
    · exact .inr (.inl ⟨r1, r5⟩)

/-! ### Rows -/
def rowP (s : List Int) (x : Int) : Bool := mayB x && rowB s x

theorem row_named {s : List Int} {x : Int} {w : World} {e : Ending} {w' : World} (h : RowPost s x w e w') :
    Below w.heap.size w w' ∧ ∃ (A : Option Addr) (n c : Nat) (err : Int) (zs : List Int), e = .returned (.tuple #[.slice A n c, .int .i64 err]) ∧ Hid (zs.length = n) ∧ Lies w' w'.heap.size A n (zs.map (Value.int .i64)) ∧
      Hid ((rowP s x = true ∧ err = 0 ∧ zs = numK s x.toNat (s.length / x.toNat)) ∨ (rowP s x = false ∧ err = (if mayB x = true then 10 else 2) ∧ zs = [])) := by
  obtain ⟨hb, h⟩ := h
  refine ⟨hb, ?_⟩
  rcases h with ⟨h, rfl⟩ | ⟨h, hr, rfl⟩ | ⟨h, hr, v, rfl, hown⟩
  · exact ⟨none, 0, 0, _, [], rfl, (rfl : ([] : List Int).length = 0), Lies.nothing, .inr ⟨by simp [rowP, h], by simp [h], rfl⟩⟩
  · exact ⟨none, 0, 0, _, [], rfl, (rfl : ([] : List Int).length = 0), Lies.nothing, .inr ⟨by simp [rowP, hr], by simp [h], rfl⟩⟩
  · obtain ⟨A, c, rfl⟩ := own_shape hown
    exact ⟨A, _, c, _, _, rfl, numK_length _ _ _, Lies.of_own hown, .inl ⟨by simp [rowP, h, hr], rfl, rfl⟩⟩

theorem bytesI_strOfNums {l : List Int} (h : IsBytes l) : bytesI (strOfNums l) = l := by
  unfold bytesI
  rw [strOfNums_data, List.map_map]
  have : ∀ b ∈ l, ((fun b => (b.toNat : Int)) ∘ fun n : Int => UInt8.ofNat n.toNat) b = b := by
    intro b hb
    have := h b hb
    simp only [Function.comp, UInt8.toNat_ofNat']
    omega
  rw [List.map_congr_left this, List.map_id']

theorem strOfNums_bytesI (s : ByteArray) : strOfNums (bytesI s) = s := by
  unfold strOfNums bytesI
  rw [List.map_map]
  have : ∀ b ∈ s.data.toList, ((fun n : Int => UInt8.ofNat n.toNat) ∘ fun b : UInt8 => (b.toNat : Int)) b = b := by
    intro b _
    simp
  rw [List.map_congr_left this, List.map_id']

theorem numK_encs {X : Nat} {zl : List Int} (hz : ∀ n ∈ zl, 0 ≤ n ∧ n < 256 ^ X) : numK (encs X zl) X zl.length = zl := by
  apply List.ext_getElem
  · rw [numK_length]
  · intro i h1 h2
    have := numAt_encs X zl i h2 [] [] (hz _ (List.getElem_mem h2))
    simp only [numK, List.getElem_map, List.getElem_range]
    simpa using this

theorem rowP_encs {X : Nat} {zl : List Int} (h : okP X zl = true) : rowP (encs X zl) X = true ∧ numK (encs X zl) ((X : Int)).toNat ((encs X zl).length / ((X : Int)).toNat) = zl := by
  obtain ⟨h1, h2⟩ := okP_width h
  have hz : ∀ n ∈ zl, 0 ≤ n ∧ n < 256 ^ X := by
    intro n hn
    have hf := of_fitsB (okP_at h hn)
    exact ⟨hf.2.1, Int.lt_of_le_of_lt hf.2.2 (mostOf_pow h1 h2)⟩
  have e1 : ((X : Int)).toNat = X := rfl
  have e2 : (encs X zl).length / X = zl.length := by rw [encs_length]; exact Nat.mul_div_cancel_left _ (by omega)
  have e3 : (encs X zl).length % X = 0 := by rw [encs_length]; exact Nat.mul_mod_right _ _
  refine ⟨?_, by rw [e1, e2, numK_encs hz]⟩
  rw [rowP, rowB, e1, e2, e3, numK_encs hz]
  rw [okP] at h
  simpa using h

theorem encs_numK_take {s : List Int} {X : Nat} (hs : IsBytes s) (k : Nat) (hk : k * X ≤ s.length) : encs X (numK s X k) = s.take (k * X) := by
  induction k with
  | zero => simp [numK, encs]
  | succ k ih =>
    rw [Nat.succ_mul] at hk
    rw [numK_succ, encs_snoc, ih (by omega), Nat.succ_mul, List.take_add]
    congr 1
    have hl : ((s.drop (k * X)).take X).length = X := by rw [List.length_take, List.length_drop]; omega
    have := enc_dec (isBytes_take (isBytes_drop hs (k * X)) X)
    rwa [hl] at this

theorem encs_row {s : List Int} {X : Nat} (hs : IsBytes s) (h : rowP s X = true) : encs X (numK s ((X : Int)).toNat (s.length / ((X : Int)).toNat)) = s ∧ okP X (numK s ((X : Int)).toNat (s.length / ((X : Int)).toNat)) = true := by
  rw [rowP, rowB, Bool.and_eq_true, Bool.and_eq_true] at h
  obtain ⟨h1, h2, h3⟩ := h
  have e1 : ((X : Int)).toNat = X := rfl
  rw [e1] at h2 h3 ⊢
  have h2 : s.length % X = 0 := of_decide_eq_true h2
  have hl : s.length / X * X = s.length := by
    have := Nat.div_add_mod s.length X
    rw [h2, Nat.mul_comm] at this
    omega
  refine ⟨?_, by rw [okP, h1, h3]; rfl⟩
  rw [encs_numK_take hs _ (by omega), hl, List.take_length]

theorem okP_row_width {s : List Int} {x : Int} (h : rowP s x = true) : 1 ≤ x ∧ x ≤ 6 := by
  rw [rowP, Bool.and_eq_true] at h
  exact of_mayB h.1

theorem bytesI_append (s t : ByteArray) : bytesI (s ++ t) = bytesI s ++ bytesI t := by
  unfold bytesI
  simp

/-- '[]byte(s)': its bytes lie in new memory. -/
theorem str_to_bytes {P : Program} (w : World) (src dst e : TypeId) (s : ByteArray) (hs : P.underlying src = some .string) (hd : P.underlying dst = some (.slice e)) (he : P.underlying e = some (.int .u8)) :
    ∃ (A : Option Addr) (c : Nat) (w' : World), (convert src dst (.string s)).run P w = .ok (.slice A s.size c) w' ∧ Lies w' w'.heap.size A s.size ((bytesI s).map (Value.int .u8)) ∧ Below w.heap.size w w' := by
  refine ⟨_, _, _, run_bytes_of_string (P := P) w src dst e s hs hd he, ⟨by simp [bytesI_length], fun _ => ⟨_, rfl, ?_, fun j u hj => ?_⟩⟩, ?_⟩
  · show w.heap.size < (w.drew.alloc _).heap.size
    simp
  · have hjl : j < s.data.size := by
      have := (List.getElem?_eq_some_iff.1 hj).1
      simpa [bytesI] using this
    have hc : (⟨w.heap.size, 0, none⟩ : Addr).add j = ⟨w.heap.size, j, none⟩ := by
      unfold Addr.add
      by_cases h0 : j = 0 <;> simp [h0]
    rw [hc]
    have e1 := World.cell?_alloc_mark w.drew (bytesRow s (grownCap w s.size 0 e)) e ((bytesRow s (grownCap w s.size 0 e)).size, (bytesRow s (grownCap w s.size 0 e)).size + 1) j
    have e2 : w.drew.heap.size = w.heap.size := rfl
    rw [e2] at e1
    rw [e1, bytesRow_at s _ j hjl, ← hj]
    simp [bytesI, List.getElem?_eq_getElem (show j < s.data.toList.length by simpa using hjl)]
  · exact (Below.refl _ _).drew.alloc (Nat.le_refl _) _

/-- Get at number k of a row that stands behind some bytes and ahead of others. -/
theorem getOut_row {X : Nat} {zl : List Int} {a r : List Int} {k : Nat} (ho : okP X zl = true) (hk : k < zl.length) :
    getOut (a ++ (encs X zl ++ r)) ((a.length : Int) + (k : Int) * (X : Int)) X = .returned (.tuple #[.int .i64 zl[k], .int .i64 0]) := by
  obtain ⟨h1, h2⟩ := okP_width ho
  have hf := okP_at ho (List.getElem_mem hk)
  have hz := of_fitsB hf
  have ea : ((a.length : Int) + (k : Int) * (X : Int)).toNat = a.length + k * X := by
    rw [← Int.natCast_mul]
    omega
  have eX : ((X : Int)).toNat = X := rfl
  have en := numAt_encs X zl k hk r a ⟨hz.2.1, Int.lt_of_le_of_lt hz.2.2 (mostOf_pow h1 h2)⟩
  have h := getOut_yes (s := a ++ (encs X zl ++ r)) (a := (a.length : Int) + (k : Int) * (X : Int)) (x := X) (mayB_yes h1 h2) (by rw [← Int.natCast_mul]; omega)
    (by
      rw [← Int.natCast_mul, List.length_append, List.length_append, encs_length]
      have := Nat.mul_le_mul_left X hk
      rw [Nat.mul_succ, Nat.mul_comm X k] at this
      omega)
  rw [ea, eX, en] at h
  exact h hf

theorem bytesI_inj {s t : ByteArray} (h : bytesI s = bytesI t) : s = t := by rw [← strOfNums_bytesI s, ← strOfNums_bytesI t, h]
theorem bytesI_take (s : ByteArray) (n : Nat) : bytesI (s.extract 0 n) = (bytesI s).take n := by
  unfold bytesI
  rw [Lib.extract_data, List.drop_zero, Nat.sub_zero, List.map_take]
theorem extract_ahead {t a : ByteArray} {r : List Int} (h : bytesI t = bytesI a ++ r) : t.extract 0 a.size = a := by
  apply bytesI_inj
  rw [bytesI_take, h, List.take_left' (bytesI_length a)]

end Go.Proofs.Ythdhmmhfljbcoaa
