/-
  The mathematics of the sum: moving by a bit, forth and back, parts at '^'; products of polynomials; rows of bytes as one number. It speaks of no program.
-/
import Derived.Test.YtjdacpnfgpdjhaaDoorRows
namespace Go.Proofs.YtjdacpnfgpdjhaaDoor
set_option linter.unusedVariables false
set_option linter.unusedSimpArgs false

/-- One bit forth: the lowest bit taken off, the rest turned about by the polynomial. On numbers of any size. -/
def st (x : Nat) : Nat := (x / 2) ^^^ (if x % 2 = 1 then 2197175160 else 0)
/-- One bit back. -/
def bk (x : Nat) : Nat := if x / 2147483648 = 1 then (x ^^^ 2197175160) * 2 + 1 else x * 2
def stN : Nat → Nat → Nat
  | 0, x => x
  | n + 1, x => stN n (st x)
def bkN : Nat → Nat → Nat
  | 0, x => x
  | n + 1, x => bkN n (bk x)

theorem xlc (x y z : Nat) : x ^^^ (y ^^^ z) = y ^^^ (x ^^^ z) := by rw [← Nat.xor_assoc, Nat.xor_comm x y, Nat.xor_assoc]
theorem xcan (x y : Nat) : x ^^^ (x ^^^ y) = y := by rw [← Nat.xor_assoc, Nat.xor_self, Nat.zero_xor]
theorem xor_eq_zero {x y : Nat} (h : x ^^^ y = 0) : x = y := by
  have := xcan x y
  rw [h, Nat.xor_zero] at this
  exact this
theorem xor_half (x y : Nat) : (x ^^^ y) / 2 = x / 2 ^^^ y / 2 := by
  have h := Nat.shiftRight_xor_distrib (a := x) (b := y) (i := 1)
  simpa [Nat.shiftRight_eq_div_pow] using h
theorem xor_par (x y : Nat) : (x ^^^ y) % 2 = (x % 2 + y % 2) % 2 := by
  have h := Nat.xor_mod_two_pow (a := x) (b := y) (n := 1)
  rw [Nat.pow_one] at h
  rw [h]
  have hx : x % 2 = 0 ∨ x % 2 = 1 := by omega
  have hy : y % 2 = 0 ∨ y % 2 = 1 := by omega
  rcases hx with hx | hx <;> rcases hy with hy | hy <;> rw [hx, hy] <;> rfl

theorem st_xor (x y : Nat) : st (x ^^^ y) = st x ^^^ st y := by
  unfold st
  rw [xor_half, xor_par]
  have hx : x % 2 = 0 ∨ x % 2 = 1 := by omega
  have hy : y % 2 = 0 ∨ y % 2 = 1 := by omega
  rcases hx with hx | hx <;> rcases hy with hy | hy <;> rw [hx, hy] <;> simp [Nat.xor_assoc, Nat.xor_comm, xlc, xcan]
theorem stN_xor (n : Nat) : ∀ x y, stN n (x ^^^ y) = stN n x ^^^ stN n y := by
  induction n with
  | zero => intro x y; rfl
  | succ n ih => intro x y; show stN n (st (x ^^^ y)) = _; rw [st_xor, ih]; rfl
theorem st_zero : st 0 = 0 := by decide
theorem stN_zero (n : Nat) : stN n 0 = 0 := by
  induction n with
  | zero => rfl
  | succ n ih => show stN n (st 0) = 0; rw [st_zero, ih]
theorem stN_add (m n x : Nat) : stN (m + n) x = stN n (stN m x) := by
  induction m generalizing x with
  | zero => simp [stN]
  | succ m ih => rw [Nat.succ_add]; show stN (m + n) (st x) = _; rw [ih]; rfl
theorem bkN_add (m n x : Nat) : bkN (m + n) x = bkN n (bkN m x) := by
  induction m generalizing x with
  | zero => simp [bkN]
  | succ m ih => rw [Nat.succ_add]; show bkN (m + n) (bk x) = _; rw [ih]; rfl
theorem st_lt {x : Nat} (h : x < 4294967296) : st x < 4294967296 := by
  have : st x < 2 ^ 32 := by
    unfold st
    apply Nat.xor_lt_two_pow
    · omega
    · split <;> omega
  omega
theorem stN_lt {x : Nat} (h : x < 4294967296) (n : Nat) : stN n x < 4294967296 := by
  induction n generalizing x with
  | zero => exact h
  | succ n ih => exact ih (st_lt h)
theorem xor_lt {x y : Nat} (h : x < 4294967296) (k : y < 4294967296) : x ^^^ y < 4294967296 := by
  have : x ^^^ y < 2 ^ 32 := Nat.xor_lt_two_pow (by omega) (by omega)
  omega
theorem top_xor {x : Nat} (ht : x / 2147483648 = 1) : (x ^^^ 2197175160) < 2147483648 := by
  have h1 := Nat.shiftRight_xor_distrib (a := x) (b := 2197175160) (i := 31)
  rw [Nat.shiftRight_eq_div_pow, Nat.shiftRight_eq_div_pow, Nat.shiftRight_eq_div_pow] at h1
  have h2 : (x ^^^ 2197175160) / 2147483648 = x / 2147483648 ^^^ 2197175160 / 2147483648 := h1
  rw [ht] at h2
  have h3 : 1 ^^^ 2197175160 / 2147483648 = 0 := by decide
  rw [h3] at h2
  omega
theorem bk_lt {x : Nat} (h : x < 4294967296) : bk x < 4294967296 := by
  unfold bk
  split
  · have := top_xor ‹_›
    omega
  · omega
theorem bkN_lt {x : Nat} (h : x < 4294967296) (n : Nat) : bkN n x < 4294967296 := by
  induction n generalizing x with
  | zero => exact h
  | succ n ih => exact ih (bk_lt h)
theorem st_bk (x : Nat) : st (bk x) = x := by
  unfold bk
  split
  · unfold st
    rw [show ((x ^^^ 2197175160) * 2 + 1) / 2 = x ^^^ 2197175160 by omega, if_pos (by omega), Nat.xor_assoc, Nat.xor_self, Nat.xor_zero]
  · unfold st
    rw [show x * 2 / 2 = x by omega, if_neg (by omega), Nat.xor_zero]
/-- Moving is one to one. -/
theorem st_eq_zero {x : Nat} (h : x < 4294967296) (hz : st x = 0) : x = 0 := by
  unfold st at hz
  by_cases ho : x % 2 = 1
  · rw [if_pos ho] at hz
    have := xor_eq_zero hz
    omega
  · rw [if_neg ho, Nat.xor_zero] at hz
    omega
theorem stN_eq_zero (n : Nat) : ∀ {x : Nat}, x < 4294967296 → stN n x = 0 → x = 0 := by
  induction n with
  | zero => intro x _ h; exact h
  | succ n ih => intro x h hz; exact st_eq_zero h (ih (st_lt h) hz)
theorem stN_inj (n : Nat) {x y : Nat} (hx : x < 4294967296) (hy : y < 4294967296) (h : stN n x = stN n y) : x = y := by
  have := stN_eq_zero n (xor_lt hx hy) (by rw [stN_xor, h, Nat.xor_self])
  exact xor_eq_zero this
theorem bk_st {x : Nat} (h : x < 4294967296) : bk (st x) = x := stN_inj 1 (bk_lt (st_lt h)) h (st_bk _)
theorem stN_succ' (n x : Nat) : stN (n + 1) x = st (stN n x) := by rw [stN_add]; rfl
theorem bkN_succ' (n x : Nat) : bkN (n + 1) x = bk (bkN n x) := by rw [bkN_add]; rfl
theorem stN_bkN (n : Nat) {x : Nat} (h : x < 4294967296) : stN n (bkN n x) = x := by
  induction n generalizing x with
  | zero => rfl
  | succ n ih => rw [stN_succ']; show st (stN n (bkN n (bk x))) = x; rw [ih (bk_lt h), st_bk]
theorem bkN_stN (n : Nat) {x : Nat} (h : x < 4294967296) : bkN n (stN n x) = x := by
  induction n generalizing x with
  | zero => rfl
  | succ n ih => rw [bkN_succ']; show bk (bkN n (stN n (st x))) = x; rw [ih (st_lt h), bk_st h]
theorem bk_xor {x y : Nat} (hx : x < 4294967296) (hy : y < 4294967296) : bk (x ^^^ y) = bk x ^^^ bk y := by
  apply stN_inj 1 (bk_lt (xor_lt hx hy)) (xor_lt (bk_lt hx) (bk_lt hy))
  show st _ = st _
  rw [st_bk, st_xor, st_bk, st_bk]

/-! ### Products -/
/-- r times f, as many bits of f as are to come: the highest first. -/
def tm : Nat → Nat → Nat → Nat
  | 0, _, _ => 0
  | n + 1, r, f => (if f / 2147483648 % 2 = 1 then r else 0) ^^^ tm n (st r) (f * 2 % 4294967296)
theorem tm_zero (n r : Nat) : tm n r 0 = 0 := by
  induction n generalizing r with
  | zero => rfl
  | succ n ih => show (if 0 / 2147483648 % 2 = 1 then r else 0) ^^^ tm n (st r) (0 * 2 % 4294967296) = 0; simp [ih]
theorem tm_xor_left (n : Nat) : ∀ r s f, tm n (r ^^^ s) f = tm n r f ^^^ tm n s f := by
  induction n with
  | zero => intro r s f; exact (Nat.xor_self 0).symm
  | succ n ih =>
    intro r s f
    show _ ^^^ tm n (st (r ^^^ s)) _ = (_ ^^^ tm n (st r) _) ^^^ (_ ^^^ tm n (st s) _)
    rw [st_xor, ih]
    split <;> simp [Nat.xor_assoc, Nat.xor_comm, xlc, xcan]
theorem dbl_xor (f g : Nat) : (f ^^^ g) * 2 % 4294967296 = (f * 2 % 4294967296) ^^^ (g * 2 % 4294967296) := by
  have h := Nat.shiftLeft_xor_distrib (a := f) (b := g) (i := 1)
  simp only [Nat.shiftLeft_eq, Nat.pow_one] at h
  rw [h]
  exact Nat.xor_mod_two_pow (n := 32)
theorem bit_xor (f g : Nat) : (f ^^^ g) / 2147483648 % 2 = (f / 2147483648 % 2 + g / 2147483648 % 2) % 2 := by
  have h := Nat.shiftRight_xor_distrib (a := f) (b := g) (i := 31)
  rw [Nat.shiftRight_eq_div_pow, Nat.shiftRight_eq_div_pow, Nat.shiftRight_eq_div_pow] at h
  have h' : (f ^^^ g) / 2147483648 = f / 2147483648 ^^^ g / 2147483648 := h
  rw [h', xor_par]
theorem tm_xor_right (n : Nat) : ∀ r f g, tm n r (f ^^^ g) = tm n r f ^^^ tm n r g := by
  induction n with
  | zero => intro r f g; exact (Nat.xor_self 0).symm
  | succ n ih =>
    intro r f g
    show _ ^^^ tm n (st r) ((f ^^^ g) * 2 % 4294967296) = (_ ^^^ tm n (st r) _) ^^^ (_ ^^^ tm n (st r) _)
    rw [dbl_xor, ih, bit_xor]
    have hx : f / 2147483648 % 2 = 0 ∨ f / 2147483648 % 2 = 1 := by omega
    have hy : g / 2147483648 % 2 = 0 ∨ g / 2147483648 % 2 = 1 := by omega
    rcases hx with hx | hx <;> rcases hy with hy | hy <;> rw [hx, hy] <;> simp [Nat.xor_assoc, Nat.xor_comm, xlc, xcan]
/-- Two maps that part at '^' and agree at each bit agree. -/
theorem by_bits (L M : Nat → Nat) (hL : ∀ x y, L (x ^^^ y) = L x ^^^ L y) (hM : ∀ x y, M (x ^^^ y) = M x ^^^ M y) :
    ∀ n, (∀ i, i < n → L (2 ^ i) = M (2 ^ i)) → ∀ x, x < 2 ^ n → L x = M x := by
  intro n
  induction n with
  | zero =>
    intro _ x hx
    have h0 : ∀ N : Nat → Nat, (∀ x y, N (x ^^^ y) = N x ^^^ N y) → N 0 = 0 := by
      intro N hN
      have := hN 0 0
      rw [Nat.xor_self, Nat.xor_self] at this
      exact this
    obtain rfl : x = 0 := by omega
    rw [h0 L hL, h0 M hM]
  | succ n ih =>
    intro h x hx
    have ih' := ih (fun i hi => h i (by omega))
    by_cases hlt : x < 2 ^ n
    · exact ih' x hlt
    · have hp : 2 ^ (n + 1) = 2 * 2 ^ n := by rw [Nat.pow_succ, Nat.mul_comm]
      have hx1 : x ^^^ 2 ^ n < 2 ^ n := by
        apply Nat.lt_pow_two_of_testBit
        intro i hi
        rw [Nat.testBit_xor]
        rcases Nat.lt_or_ge n i with h1 | h1
        · rw [Nat.testBit_lt_two_pow (Nat.lt_of_lt_of_le hx (Nat.pow_le_pow_right (by decide) (by omega))), Nat.testBit_two_pow_of_ne (by omega)]
          rfl
        · obtain rfl : i = n := by omega
          rw [Nat.testBit_two_pow_self]
          have : x.testBit i = true := by
            rw [Nat.testBit, Nat.shiftRight_eq_div_pow]
            have h1 : x / 2 ^ i = 1 := Nat.div_eq_of_lt_le (by omega) (by omega)
            rw [h1]
            decide
          rw [this]
          rfl
      have hxx : x = (x ^^^ 2 ^ n) ^^^ 2 ^ n := by rw [Nat.xor_assoc, Nat.xor_self, Nat.xor_zero]
      rw [hxx, hL, hM, ih' _ hx1, h n (by omega)]

theorem all_lt {p : Nat → Bool} {n : Nat} (h : (List.range n).all p = true) (i : Nat) (hi : i < n) : p i = true := List.all_eq_true.1 h i (List.mem_range.2 hi)
set_option maxRecDepth 100000 in
theorem tm_st_bits : ((List.range 32).all fun i => (List.range 32).all fun j => decide (tm 32 (2 ^ i) (st (2 ^ j)) = st (tm 32 (2 ^ i) (2 ^ j)))) = true := by decide +kernel
/-- A product with what was moved is the product, moved. -/
theorem tm_st {r f : Nat} (hr : r < 4294967296) (hf : f < 4294967296) : tm 32 r (st f) = st (tm 32 r f) := by
  refine by_bits (fun f => tm 32 r (st f)) (fun f => st (tm 32 r f)) (fun x y => by show tm 32 r (st (x ^^^ y)) = _; rw [st_xor, tm_xor_right]) (fun x y => by show st (tm 32 r (x ^^^ y)) = _; rw [tm_xor_right, st_xor]) 32 ?_ f hf
  intro j hj
  refine by_bits (fun r => tm 32 r (st (2 ^ j))) (fun r => st (tm 32 r (2 ^ j))) (fun x y => by show tm 32 (x ^^^ y) _ = _; rw [tm_xor_left]) (fun x y => by show st (tm 32 (x ^^^ y) _) = _; rw [tm_xor_left, st_xor]) 32 ?_ r hr
  intro i hi
  exact of_decide_eq_true (all_lt (all_lt tm_st_bits i hi) j hj)
theorem tm_lt (n : Nat) {r f : Nat} (hr : r < 4294967296) : tm n r f < 4294967296 := by
  induction n generalizing r f with
  | zero => show 0 < 4294967296; omega
  | succ n ih => exact xor_lt (by split <;> omega) (ih (st_lt hr))
theorem tm_bk {r f : Nat} (hr : r < 4294967296) (hf : f < 4294967296) : tm 32 r (bk f) = bk (tm 32 r f) := by
  apply stN_inj 1 (tm_lt _ hr) (bk_lt (tm_lt _ hr))
  show st _ = st _
  rw [← tm_st hr (bk_lt hf), st_bk, st_bk]
theorem tm_one (r : Nat) : tm 32 r 2147483648 = r := by
  show (if 2147483648 / 2147483648 % 2 = 1 then r else 0) ^^^ tm 31 (st r) (2147483648 * 2 % 4294967296) = r
  rw [if_pos (by decide), show 2147483648 * 2 % 4294967296 = 0 from by decide, tm_zero, Nat.xor_zero]
/-- Multiplying by what one was moved to is moving. -/
theorem tm_stN (n : Nat) {r : Nat} (hr : r < 4294967296) : tm 32 r (stN n 2147483648) = stN n r := by
  induction n with
  | zero => exact tm_one r
  | succ n ih => rw [stN_succ', tm_st hr (stN_lt (by omega) n), ih, stN_succ']
theorem tm_bkN (n : Nat) {r : Nat} (hr : r < 4294967296) : tm 32 r (bkN n 2147483648) = bkN n r := by
  induction n with
  | zero => exact tm_one r
  | succ n ih => rw [bkN_succ', tm_bk hr (bkN_lt (by omega) n), ih, bkN_succ']

/-! ### Either way -/
def mv (d : Bool) (n x : Nat) : Nat := if d then bkN n x else stN n x
theorem mv_lt (d : Bool) (n : Nat) {x : Nat} (h : x < 4294967296) : mv d n x < 4294967296 := by
  unfold mv; split
  · exact bkN_lt h n
  · exact stN_lt h n
theorem mv_add (d : Bool) (m n x : Nat) : mv d (m + n) x = mv d n (mv d m x) := by
  unfold mv; split
  · exact bkN_add m n x
  · exact stN_add m n x
theorem mv_zero (d : Bool) (x : Nat) : mv d 0 x = x := by cases d <;> rfl
theorem tm_mv (d : Bool) (n : Nat) {r : Nat} (h : r < 4294967296) : tm 32 r (mv d n 2147483648) = mv d n r := by
  unfold mv; split
  · exact tm_bkN n h
  · exact tm_stN n h
/-- What is left of a product when k bits of the factor are gone. -/
theorem tm_step (n r f : Nat) : tm (n + 1) r f = (if f / 2147483648 % 2 = 1 then r else 0) ^^^ tm n (st r) (f * 2 % 4294967296) := rfl

/-! ### Four bits at once -/
def nibs : List Nat := [0, 274646895, 549293790, 820201905, 1098587580, 1361435347, 1640403810, 1905808397, 2197175160, 2460548119, 2722870694, 2987750089, 3280807620, 3553878443, 3811616794, 4084100981]
def nb (x : Nat) : Nat := x / 16 ^^^ nibs.getD (x % 16) 0
theorem nibs_xor : ((List.range 16).all fun i => (List.range 16).all fun j => decide (nibs.getD (i ^^^ j) 0 = nibs.getD i 0 ^^^ nibs.getD j 0)) = true := by decide +kernel
theorem nibs_lt : ((List.range 16).all fun i => decide (nibs.getD i 0 < 4294967296)) = true := by decide +kernel
theorem nibs_st : ((List.range 32).all fun i => decide (nb (2 ^ i) = stN 4 (2 ^ i))) = true := by decide +kernel
theorem nib_at {x : Nat} : nibs.getD (x % 16) 0 < 4294967296 := of_decide_eq_true (all_lt nibs_lt (x % 16) (Nat.mod_lt _ (by decide)))
theorem nb_xor (x y : Nat) : nb (x ^^^ y) = nb x ^^^ nb y := by
  unfold nb
  have h1 : (x ^^^ y) / 16 = x / 16 ^^^ y / 16 := by
    have h := Nat.shiftRight_xor_distrib (a := x) (b := y) (i := 4)
    rw [Nat.shiftRight_eq_div_pow, Nat.shiftRight_eq_div_pow, Nat.shiftRight_eq_div_pow] at h
    exact h
  have h2 : (x ^^^ y) % 16 = x % 16 ^^^ y % 16 := Nat.xor_mod_two_pow (n := 4)
  have h3 : nibs.getD (x % 16 ^^^ y % 16) 0 = nibs.getD (x % 16) 0 ^^^ nibs.getD (y % 16) 0 :=
    of_decide_eq_true (all_lt (all_lt nibs_xor (x % 16) (Nat.mod_lt _ (by decide))) (y % 16) (Nat.mod_lt _ (by decide)))
  rw [h1, h2, h3]
  simp [Nat.xor_assoc, xlc]
theorem nb_stN {x : Nat} (h : x < 4294967296) : nb x = stN 4 x :=
  by_bits nb (stN 4) nb_xor (stN_xor 4) 32 (fun i hi => of_decide_eq_true (all_lt nibs_st i hi)) x h
theorem nb_lt {x : Nat} (h : x < 4294967296) : nb x < 4294967296 := by rw [nb_stN h]; exact stN_lt h 4
theorem nb_nb {x : Nat} (h : x < 4294967296) : nb (nb x) = stN 8 x := by
  rw [nb_stN (nb_lt h), nb_stN h, ← stN_add]

/-! ### Rows of bytes -/
theorem st_dbl (x : Nat) : st (x * 2) = x := by
  unfold st
  rw [if_neg (by omega), Nat.xor_zero]
  omega
theorem stN_dbl (n : Nat) : ∀ x, stN n (x * 2 ^ n) = x := by
  induction n with
  | zero => intro x; simp [stN]
  | succ n ih =>
    intro x
    show stN n (st (x * 2 ^ (n + 1))) = x
    rw [Nat.pow_succ, ← Nat.mul_assoc, st_dbl]
    exact ih x
/-- The register behind some bytes. -/
def rg (x : Nat) : List Nat → Nat
  | [] => x
  | b :: l => rg (stN 8 (x ^^^ b)) l
/-- The bytes as one number, the first one lowest. -/
def val : List Nat → Nat
  | [] => 0
  | b :: l => b ^^^ val l * 256
theorem rg_val (l : List Nat) : ∀ x, rg x l = stN (8 * l.length) (x ^^^ val l) := by
  induction l with
  | nil => intro x; show x = stN 0 (x ^^^ 0); rw [Nat.xor_zero]; rfl
  | cons b l ih =>
    intro x
    show rg (stN 8 (x ^^^ b)) l = stN (8 * (l.length + 1)) (x ^^^ (b ^^^ val l * 256))
    rw [ih, show 8 * (l.length + 1) = 8 + 8 * l.length by omega, stN_add, ← Nat.xor_assoc, stN_xor 8 (x ^^^ b)]
    congr 2
    exact (stN_dbl 8 (val l)).symm
theorem rg_append (l m : List Nat) : ∀ x, rg x (l ++ m) = rg (rg x l) m := by
  induction l with
  | nil => intro x; rfl
  | cons b l ih => intro x; exact ih _
theorem rg_snoc (x : Nat) (l : List Nat) (b : Nat) : rg x (l ++ [b]) = stN 8 (rg x l ^^^ b) := rg_append l [b] x
def Bytes (l : List Nat) : Prop := ∀ b ∈ l, b < 256
theorem rg_lt {x : Nat} (h : x < 4294967296) : ∀ l, Bytes l → rg x l < 4294967296 := by
  intro l
  induction l generalizing x with
  | nil => intro _; exact h
  | cons b l ih =>
    intro hb
    have := hb b (by simp)
    exact ih (stN_lt (xor_lt h (by omega)) 8) (fun c hc => hb c (by simp [hc]))

/-! ### Sums -/
def ones (x : Nat) : Nat := x ^^^ 4294967295
theorem ones_ones (x : Nat) : ones (ones x) = x := by unfold ones; rw [Nat.xor_assoc, Nat.xor_self, Nat.xor_zero]
theorem ones_lt {x : Nat} (h : x < 4294967296) : ones x < 4294967296 := xor_lt h (by omega)
def addS (s : Nat) (l : List Nat) : Nat := ones (rg (ones s) l)
def sumS (l : List Nat) : Nat := addS 0 l
theorem addS_lt {s : Nat} (h : s < 4294967296) {l : List Nat} (hl : Bytes l) : addS s l < 4294967296 := ones_lt (rg_lt (ones_lt h) l hl)
theorem addS_addS (s : Nat) (l m : List Nat) : addS (addS s l) m = addS s (l ++ m) := by
  unfold addS
  rw [ones_ones, rg_append]
theorem addS_nil (s : Nat) : addS s [] = s := ones_ones s
theorem rg_xor (l : List Nat) (x y : Nat) : rg (x ^^^ y) l = stN (8 * l.length) x ^^^ rg y l := by
  rw [rg_val, rg_val, Nat.xor_assoc, stN_xor]
/-- The sum of two rows, out of their sums. -/
theorem both_sum (a b : List Nat) : stN (8 * b.length) (sumS a) ^^^ sumS b = sumS (a ++ b) := by
  unfold sumS addS
  rw [rg_append]
  have h1 : ones (rg (ones 0) a) = rg (ones 0) a ^^^ 4294967295 := rfl
  have h2 : ∀ y, ones y = y ^^^ 4294967295 := fun _ => rfl
  rw [h1, stN_xor, h2 (rg (ones 0) b), h2 (rg _ b)]
  have e := rg_xor b (rg (ones 0) a) 0
  have e' := rg_xor b (ones 0) 0
  rw [Nat.xor_zero] at e e'
  rw [e, e']
  have h0 : ones 0 = 4294967295 := by decide
  rw [h0]
  simp [Nat.xor_assoc, xlc, xcan]

/-! ### Four bytes that close -/
def four (v : Nat) : List Nat := [v % 256, v / 256 % 256, v / 65536 % 256, v / 16777216 % 256]
theorem split_xor (v n : Nat) : v = v % 2 ^ n ^^^ v / 2 ^ n * 2 ^ n := by
  apply Nat.eq_of_testBit_eq
  intro i
  rw [Nat.testBit_xor, Nat.testBit_mod_two_pow, Nat.testBit_mul_two_pow, Nat.testBit_div_two_pow]
  by_cases h : i < n
  · simp [h, Nat.not_le.2 h]
  · simp [h, Nat.not_lt.1 h, Nat.sub_add_cancel (Nat.not_lt.1 h)]
theorem val_four {v : Nat} (h : v < 4294967296) : val (four v) = v := by
  have e1 := split_xor v 8
  have e2 := split_xor (v / 256) 8
  have e3 := split_xor (v / 65536) 8
  have d2 : v / 256 / 2 ^ 8 = v / 65536 := by omega
  have d3 : v / 65536 / 2 ^ 8 = v / 16777216 := by omega
  have d4 : v / 16777216 % 256 = v / 16777216 := by omega
  rw [d2] at e2
  rw [d3] at e3
  show v % 256 ^^^ (v / 256 % 256 ^^^ (v / 65536 % 256 ^^^ (v / 16777216 % 256 ^^^ 0 * 256) * 256) * 256) * 256 = v
  rw [d4, Nat.zero_mul, Nat.xor_zero]
  have e3' : v / 65536 % 256 ^^^ v / 16777216 * 256 = v / 65536 := e3.symm
  rw [e3']
  have e2' : v / 256 % 256 ^^^ v / 65536 * 256 = v / 256 := e2.symm
  rw [e2']
  exact e1.symm
theorem bytes_four (v : Nat) : Bytes (four v) := by
  intro b hb
  simp [four] at hb
  omega
def closeV (b : List Nat) (want : Nat) : Nat := bkN 32 (ones want) ^^^ ones (sumS b)
theorem closeV_lt {b : List Nat} {want : Nat} (hb : Bytes b) (h : want < 4294967296) : closeV b want < 4294967296 :=
  xor_lt (bkN_lt (ones_lt h) 32) (ones_lt (addS_lt (by omega) hb))
theorem close_sum {b : List Nat} {want ch : Nat} (hb : Bytes b) (h : want < 4294967296) (hc : ch < 4294967296) : sumS (b ++ four (closeV b want ^^^ ch)) = want ^^^ stN 32 ch := by
  have hv := closeV_lt hb h
  unfold sumS addS
  rw [rg_append, rg_val (four _), val_four (xor_lt hv hc)]
  show ones (stN 32 _) = _
  unfold closeV sumS addS
  rw [ones_ones]
  have e : rg (ones 0) b ^^^ (bkN 32 (ones want) ^^^ rg (ones 0) b ^^^ ch) = bkN 32 (ones want) ^^^ ch := by
    simp [Nat.xor_assoc, xlc, xcan]
  rw [e, stN_xor, stN_bkN 32 (ones_lt h)]
  show (ones want ^^^ stN 32 ch) ^^^ 4294967295 = _
  have h2 : ones want = want ^^^ 4294967295 := rfl
  rw [h2, Nat.xor_assoc, Nat.xor_comm (stN 32 ch), Nat.xor_assoc, xcan]
theorem close_iff {b : List Nat} {want ch : Nat} (hb : Bytes b) (h : want < 4294967296) (hc : ch < 4294967296) : sumS (b ++ four (closeV b want ^^^ ch)) = want ↔ ch = 0 := by
  rw [close_sum hb h hc]
  constructor
  · intro e
    have h1 : want ^^^ (want ^^^ stN 32 ch) = want ^^^ want := by rw [e]
    rw [xcan, Nat.xor_self] at h1
    exact stN_eq_zero 32 hc h1
  · intro e
    rw [e, stN_zero, Nat.xor_zero]

/-! ### Bytes that were harmed -/
theorem shl_xor (x y n : Nat) : (x ^^^ y) * 2 ^ n = x * 2 ^ n ^^^ y * 2 ^ n := by
  have h := Nat.shiftLeft_xor_distrib (a := x) (b := y) (i := n)
  simpa only [Nat.shiftLeft_eq] using h
theorem val_set (d : Nat) : ∀ (l : List Nat) (i : Nat) (hi : i < l.length), val (l.set i (l[i] ^^^ d)) = val l ^^^ d * 256 ^ i := by
  intro l
  induction l with
  | nil => intro i hi; simp at hi
  | cons b l ih =>
    intro i hi
    cases i with
    | zero =>
      show (b ^^^ d) ^^^ val l * 256 = (b ^^^ val l * 256) ^^^ d * 1
      rw [Nat.mul_one]
      simp [Nat.xor_assoc, Nat.xor_comm, xlc]
    | succ i =>
      have hi' : i < l.length := by simpa using hi
      have h := ih i hi'
      have e : (val l ^^^ d * 256 ^ i) * 256 = val l * 256 ^^^ d * 256 ^ i * 256 := shl_xor _ _ 8
      show b ^^^ val (l.set i (l[i] ^^^ d)) * 256 = (b ^^^ val l * 256) ^^^ d * 256 ^ (i + 1)
      rw [h, e, Nat.xor_assoc, Nat.pow_succ, Nat.mul_assoc d]
theorem bit_place (k : Nat) : 2 ^ (k % 8) * 256 ^ (k / 8) = 2 ^ k := by
  rw [show (256 : Nat) = 2 ^ 8 from rfl, ← Nat.pow_mul, ← Nat.pow_add]
  congr 1
  omega
/-- Which bits are turned about, of the first i of these. -/
theorem low_succ {v i : Nat} (h : v / 2 ^ i % 2 = 1) : v % 2 ^ (i + 1) = v % 2 ^ i ^^^ 2 ^ i := by
  apply Nat.eq_of_testBit_eq
  intro j
  rw [Nat.testBit_xor, Nat.testBit_mod_two_pow, Nat.testBit_mod_two_pow]
  have hi : v.testBit i = true := by
    rw [Nat.testBit, Nat.shiftRight_eq_div_pow]
    simp [Nat.and_one_is_mod, h]
  by_cases hj : j = i
  · subst hj
    simp [hi, Nat.testBit_two_pow_self]
  · rw [Nat.testBit_two_pow_of_ne (fun e => hj e.symm)]
    have : (j < i + 1) ↔ j < i := by omega
    simp [this]
theorem low_same {v i : Nat} (h : v / 2 ^ i % 2 = 0) : v % 2 ^ (i + 1) = v % 2 ^ i := by
  rw [Nat.pow_succ, Nat.mod_mul, h]
  omega
theorem low_ne {v i : Nat} (h : v / 2 ^ i % 2 = 1) : v % 2 ^ (i + 1) ≠ 0 := by
  rw [Nat.pow_succ, Nat.mod_mul, h]
  have := Nat.two_pow_pos i
  omega
theorem harm_sum {b c : List Nat} {v i f : Nat} (hl : c.length = b.length) (hv : val c = val b ^^^ v % 2 ^ i * 2 ^ f) (hi : i ≤ 32) (hf : f ≤ 8 * b.length) : sumS c = sumS b ↔ v % 2 ^ i = 0 := by
  have hlt : v % 2 ^ i < 4294967296 := Nat.lt_of_lt_of_le (Nat.mod_lt _ (Nat.two_pow_pos i)) (Nat.pow_le_pow_right (n := 2) (by decide) hi)
  have e : rg (ones 0) c = rg (ones 0) b ^^^ stN (8 * b.length - f) (v % 2 ^ i) := by
    rw [rg_val, rg_val, hl, hv, ← Nat.xor_assoc, stN_xor _ (ones 0 ^^^ val b)]
    congr 1
    have h8 : 8 * b.length = f + (8 * b.length - f) := by omega
    rw [h8, stN_add, stN_dbl]
    congr 1
    omega
  have hs : sumS c = sumS b ^^^ stN (8 * b.length - f) (v % 2 ^ i) := by
    unfold sumS addS
    rw [e]
    unfold ones
    simp [Nat.xor_assoc, Nat.xor_comm, xlc]
  rw [hs]
  constructor
  · intro h
    have h1 : sumS b ^^^ (sumS b ^^^ stN (8 * b.length - f) (v % 2 ^ i)) = sumS b ^^^ sumS b := by rw [h]
    rw [xcan, Nat.xor_self] at h1
    exact stN_eq_zero _ hlt h1
  · intro h
    rw [h, stN_zero, Nat.xor_zero]
theorem sum_nil : sumS [] = 0 := by decide
theorem sum_nine : sumS [49, 50, 51, 52, 53, 54, 55, 56, 57] = 3808858755 := by decide +kernel

end Go.Proofs.YtjdacpnfgpdjhaaDoor
