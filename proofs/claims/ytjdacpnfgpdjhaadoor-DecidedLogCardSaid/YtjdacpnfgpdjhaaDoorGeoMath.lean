/-
  geo: the mathematics, over plain integers: which geometries may be, regions one behind the other, where each thing stands, what stands at a sector.
-/
import Derived.KernelRfl
namespace Go.Proofs.YtjdacpnfgpdjhaaDoor
set_option linter.unusedVariables false
set_option linter.unusedSimpArgs false

/-- A geometry: Nodes, Slots, Blocks, Per, Journal, Log, Lease, Wait. -/
structure G where
  N : Int
  S : Int
  B : Int
  P : Int
  J : Int
  L : Int
  E : Int
  T : Int

def mayG (g : G) : Bool := decide (1 ≤ g.N ∧ g.N ≤ 16 ∧ 1 ≤ g.S ∧ g.S ≤ g.N ∧ 1 ≤ g.B ∧ g.B ≤ 64 ∧ 1 ≤ g.P ∧ g.P ≤ 8 ∧ g.P + 2 ≤ g.J ∧ g.J ≤ 64 ∧ 8 * g.S ≤ g.L ∧ g.L ≤ 512 ∧ 1 ≤ g.E ∧ g.E < g.T ∧ g.T ≤ 1048576)

theorem of_may {g : G} (h : mayG g = true) : 1 ≤ g.N ∧ g.N ≤ 16 ∧ 1 ≤ g.S ∧ g.S ≤ g.N ∧ 1 ≤ g.B ∧ g.B ≤ 64 ∧ 1 ≤ g.P ∧ g.P ≤ 8 ∧ g.P + 2 ≤ g.J ∧ g.J ≤ 64 ∧ 8 * g.S ≤ g.L ∧ g.L ≤ 512 ∧ 1 ≤ g.E ∧ g.E < g.T ∧ g.T ≤ 1048576 := of_decide_eq_true h
theorem may_no {g : G} (h : ¬ (1 ≤ g.N ∧ g.N ≤ 16 ∧ 1 ≤ g.S ∧ g.S ≤ g.N ∧ 1 ≤ g.B ∧ g.B ≤ 64 ∧ 1 ≤ g.P ∧ g.P ≤ 8 ∧ g.P + 2 ≤ g.J ∧ g.J ≤ 64 ∧ 8 * g.S ≤ g.L ∧ g.L ≤ 512 ∧ 1 ≤ g.E ∧ g.E < g.T ∧ g.T ≤ 1048576)) : mayG g = false := decide_eq_false h
theorem may_yes {g : G} (h : 1 ≤ g.N ∧ g.N ≤ 16 ∧ 1 ≤ g.S ∧ g.S ≤ g.N ∧ 1 ≤ g.B ∧ g.B ≤ 64 ∧ 1 ≤ g.P ∧ g.P ≤ 8 ∧ g.P + 2 ≤ g.J ∧ g.J ≤ 64 ∧ 8 * g.S ≤ g.L ∧ g.L ≤ 512 ∧ 1 ≤ g.E ∧ g.E < g.T ∧ g.T ≤ 1048576) : mayG g = true := decide_eq_true h

/-- A product of two numbers between bounds. -/
theorem mul_bd {a b x y : Int} (ha : 0 ≤ a) (ha' : a ≤ x) (hb : 0 ≤ b) (hb' : b ≤ y) : 0 ≤ a * b ∧ a * b ≤ x * y :=
  ⟨Int.mul_nonneg ha hb, Int.mul_le_mul ha' hb' hb (Int.le_trans ha ha')⟩

/-- A stretch: from, how many things, of how many sectors each. -/
structure St where
  f : Int
  t : Int
  e : Int

def stOf (c : Bool) (f t e : Int) : St := if c = true then ⟨f, t, e⟩ else ⟨0, 0, 0⟩
def kOf (c : Bool) (k : Int) : Int := if c = true then k else 0
theorem stOf_yes {c : Bool} {f t e : Int} (h : c = true) : stOf c f t e = ⟨f, t, e⟩ := if_pos h
theorem stOf_no {c : Bool} {f t e : Int} (h : c = false) : stOf c f t e = ⟨0, 0, 0⟩ := by subst h; rfl
theorem kOf_yes {c : Bool} {k : Int} (h : c = true) : kOf c k = k := if_pos h
theorem kOf_no {c : Bool} {k : Int} (h : c = false) : kOf c k = 0 := by subst h; rfl

/-- The regions. -/
def superS (g : G) : St := stOf (mayG g) 0 1 1
def leaseS (g : G) : St := stOf (mayG g) 1 g.N 1
def ballotS (g : G) : St := stOf (mayG g) (1 + g.N) g.N 1
def logS (g : G) : St := stOf (mayG g) (1 + 2 * g.N) g.L 1
def slotS (g : G) : St := stOf (mayG g) (1 + 2 * g.N + g.L) g.S (1 + g.J)
def dataS (g : G) : St := stOf (mayG g) (1 + 2 * g.N + g.L + g.S * (1 + g.J)) g.B g.P

/-- All numbers of a stretch are small. -/
def Small (s : St) : Prop := 0 ≤ s.f ∧ s.f ≤ 4000 ∧ 0 ≤ s.t ∧ s.t ≤ 4000 ∧ 0 ≤ s.e ∧ s.e ≤ 4000
theorem small_zero : Small ⟨0, 0, 0⟩ := by unfold Small; decide

theorem superS_small (g : G) : Small (superS g) := by
  unfold superS
  by_cases h : mayG g = true
  · rw [stOf_yes h]; unfold Small; decide
  · rw [stOf_no (by simpa using h)]; exact small_zero
theorem leaseS_small (g : G) : Small (leaseS g) := by
  unfold leaseS
  by_cases h : mayG g = true
  · have := of_may h
    rw [stOf_yes h]; unfold Small; simp only; omega
  · rw [stOf_no (by simpa using h)]; exact small_zero
theorem ballotS_small (g : G) : Small (ballotS g) := by
  unfold ballotS
  by_cases h : mayG g = true
  · have := of_may h
    rw [stOf_yes h]; unfold Small; simp only; omega
  · rw [stOf_no (by simpa using h)]; exact small_zero
theorem logS_small (g : G) : Small (logS g) := by
  unfold logS
  by_cases h : mayG g = true
  · have := of_may h
    rw [stOf_yes h]; unfold Small; simp only; omega
  · rw [stOf_no (by simpa using h)]; exact small_zero
theorem slotS_small (g : G) : Small (slotS g) := by
  unfold slotS
  by_cases h : mayG g = true
  · have := of_may h
    rw [stOf_yes h]; unfold Small; simp only; omega
  · rw [stOf_no (by simpa using h)]; exact small_zero
theorem slots_bd {g : G} (h : mayG g = true) : 0 ≤ g.S * (1 + g.J) ∧ g.S * (1 + g.J) ≤ 1040 := by
  have := of_may h
  have := mul_bd (a := g.S) (b := 1 + g.J) (x := 16) (y := 65) (by omega) (by omega) (by omega) (by omega)
  omega
theorem data_bd {g : G} (h : mayG g = true) : 0 ≤ g.B * g.P ∧ g.B * g.P ≤ 512 := by
  have := of_may h
  have := mul_bd (a := g.B) (b := g.P) (x := 64) (y := 8) (by omega) (by omega) (by omega) (by omega)
  omega
theorem dataS_small (g : G) : Small (dataS g) := by
  unfold dataS
  by_cases h : mayG g = true
  · have := of_may h
    have := slots_bd h
    rw [stOf_yes h]; unfold Small; simp only; omega
  · rw [stOf_no (by simpa using h)]; exact small_zero

/-- Where a stretch ends. -/
def endV (s : St) : Int := s.f + s.t * s.e
theorem endV_bd {s : St} (h : Small s) : 0 ≤ s.t * s.e ∧ s.t * s.e ≤ 16000000 ∧ 0 ≤ endV s ∧ endV s ≤ 16004000 := by
  unfold Small at h
  have := mul_bd (a := s.t) (b := s.e) (x := 4000) (y := 4000) (by omega) (by omega) (by omega) (by omega)
  unfold endV
  omega

/-- A thing's k-th sector. -/
def atB (s : St) (x k : Int) : Bool := decide (0 ≤ x ∧ x < s.t ∧ 0 ≤ k ∧ k < s.e)
def atV (s : St) (x k : Int) : Int := if atB s x k = true then s.f + x * s.e + k else -1
theorem of_atB {s : St} {x k : Int} (h : atB s x k = true) : 0 ≤ x ∧ x < s.t ∧ 0 ≤ k ∧ k < s.e := of_decide_eq_true h
theorem atB_no {s : St} {x k : Int} (h : x < 0 ∨ s.t ≤ x ∨ k < 0 ∨ s.e ≤ k) : atB s x k = false := decide_eq_false (by omega)
theorem atV_yes {s : St} {x k : Int} (h : atB s x k = true) : atV s x k = s.f + x * s.e + k := if_pos h
theorem atV_no {s : St} {x k : Int} (h : atB s x k = false) : atV s x k = -1 := by unfold atV; rw [h]; rfl
theorem at_cases (s : St) (x k : Int) : (0 ≤ x ∧ x < s.t ∧ 0 ≤ k ∧ k < s.e ∧ atB s x k = true) ∨ (atB s x k = false ∧ (x < 0 ∨ (0 ≤ x ∧ s.t ≤ x) ∨ (0 ≤ x ∧ x < s.t ∧ k < 0) ∨ (0 ≤ x ∧ x < s.t ∧ 0 ≤ k ∧ s.e ≤ k))) := by
  by_cases h : atB s x k = true
  · have := of_atB h
    exact .inl ⟨this.1, this.2.1, this.2.2.1, this.2.2.2, h⟩
  · have h' : atB s x k = false := by simpa using h
    have : ¬ (0 ≤ x ∧ x < s.t ∧ 0 ≤ k ∧ k < s.e) := of_decide_eq_false h'
    refine .inr ⟨h', by omega⟩
theorem at_bd {s : St} {x k : Int} (hs : Small s) (h : 0 ≤ x ∧ x < s.t ∧ 0 ≤ k ∧ k < s.e) : 0 ≤ x * s.e ∧ x * s.e ≤ 16000000 := by
  unfold Small at hs
  have := mul_bd (a := x) (b := s.e) (x := 4000) (y := 4000) (by omega) (by omega) (by omega) (by omega)
  omega

/-- Is a sector the stretch's? -/
def hasV (s : St) (x : Int) : Bool := decide (s.f ≤ x ∧ x < endV s)
theorem of_has {s : St} {x : Int} (h : hasV s x = true) : s.f ≤ x ∧ x < endV s := of_decide_eq_true h
theorem of_not_has {s : St} {x : Int} (h : hasV s x = false) : x < s.f ∨ endV s ≤ x := by
  have : ¬ (s.f ≤ x ∧ x < endV s) := of_decide_eq_false h
  omega
theorem has_each {s : St} {x : Int} (hs : Small s) (h : hasV s x = true) : 1 ≤ s.e := by
  have h := of_has h
  unfold Small at hs
  by_cases he : s.e = 0
  · unfold endV at h
    rw [he, Int.mul_zero] at h
    omega
  · omega

/-- A journal's place. -/
def placeV (s : St) (x y : Int) : Int := if y < 0 ∨ s.t = 0 then -1 else atV s x (1 + y % (s.e - 1))

def leaseV (g : G) (a : Int) : Int := atV (leaseS g) a 0
def paxosV (g : G) (a : Int) : Int := atV (ballotS g) a 0
def logV (g : G) (a : Int) : Int := atV (logS g) a 0
def headV (g : G) (a : Int) : Int := atV (slotS g) a 0
def journalV (g : G) (a b : Int) : Int := placeV (slotS g) a b
def dataV (g : G) (a b : Int) : Int := atV (dataS g) a b
def totalV (g : G) : Int := endV (dataS g)
def restV (g : G) : Int := 4 * (slotS g).t

/-- What stands at a sector: the kind, of whom, which. -/
structure W3 where
  k : Int
  a : Int
  b : Int
def plainW (s : St) (c x : Int) : W3 := ⟨c, (x - s.f) / s.e, (x - s.f) % s.e⟩
def slotW (s : St) (x : Int) : W3 := if (x - s.f) % s.e = 0 then ⟨5, (x - s.f) / s.e, 0⟩ else ⟨6, (x - s.f) / s.e, (x - s.f) % s.e - 1⟩
def whatV (g : G) (x : Int) : W3 :=
  if hasV (superS g) x = true then plainW (superS g) (kOf (mayG g) 1) x
  else if hasV (leaseS g) x = true then plainW (leaseS g) (kOf (mayG g) 2) x
  else if hasV (ballotS g) x = true then plainW (ballotS g) (kOf (mayG g) 3) x
  else if hasV (logS g) x = true then plainW (logS g) (kOf (mayG g) 4) x
  else if hasV (dataS g) x = true then plainW (dataS g) (kOf (mayG g) 7) x
  else if hasV (slotS g) x = true then slotW (slotS g) x
  else ⟨0, 0, 0⟩

theorem has_bd {s : St} {x : Int} (hs : Small s) (h : hasV s x = true) : 0 ≤ s.f ∧ s.f ≤ 4000 ∧ s.f ≤ x ∧ x ≤ 16004000 ∧ 1 ≤ s.e ∧ s.e ≤ 4000 := by
  have h1 := has_each hs h
  have h2 := of_has h
  have h3 := endV_bd hs
  unfold Small at hs
  omega

/-- The first condition that falls, or none. -/
theorem may_cases (g : G) :
    (mayG g = false ∧ (g.N < 1 ∨ 16 < g.N)) ∨
    (mayG g = false ∧ (1 ≤ g.N ∧ g.N ≤ 16) ∧ (g.S < 1 ∨ g.N < g.S)) ∨
    (mayG g = false ∧ (1 ≤ g.N ∧ g.N ≤ 16) ∧ (1 ≤ g.S ∧ g.S ≤ g.N) ∧ (g.B < 1 ∨ 64 < g.B)) ∨
    (mayG g = false ∧ (1 ≤ g.N ∧ g.N ≤ 16) ∧ (1 ≤ g.S ∧ g.S ≤ g.N) ∧ (1 ≤ g.B ∧ g.B ≤ 64) ∧ (g.P < 1 ∨ 8 < g.P)) ∨
    (mayG g = false ∧ (1 ≤ g.N ∧ g.N ≤ 16) ∧ (1 ≤ g.S ∧ g.S ≤ g.N) ∧ (1 ≤ g.B ∧ g.B ≤ 64) ∧ (1 ≤ g.P ∧ g.P ≤ 8) ∧ (g.J < g.P + 2 ∨ 64 < g.J)) ∨
    (mayG g = false ∧ (1 ≤ g.N ∧ g.N ≤ 16) ∧ (1 ≤ g.S ∧ g.S ≤ g.N) ∧ (1 ≤ g.B ∧ g.B ≤ 64) ∧ (1 ≤ g.P ∧ g.P ≤ 8) ∧ (g.P + 2 ≤ g.J ∧ g.J ≤ 64) ∧ (g.L < 8 * g.S ∨ 512 < g.L)) ∨
    (mayG g = false ∧ (1 ≤ g.N ∧ g.N ≤ 16) ∧ (1 ≤ g.S ∧ g.S ≤ g.N) ∧ (1 ≤ g.B ∧ g.B ≤ 64) ∧ (1 ≤ g.P ∧ g.P ≤ 8) ∧ (g.P + 2 ≤ g.J ∧ g.J ≤ 64) ∧ (8 * g.S ≤ g.L ∧ g.L ≤ 512) ∧ (g.E < 1)) ∨
    (mayG g = false ∧ (1 ≤ g.N ∧ g.N ≤ 16) ∧ (1 ≤ g.S ∧ g.S ≤ g.N) ∧ (1 ≤ g.B ∧ g.B ≤ 64) ∧ (1 ≤ g.P ∧ g.P ≤ 8) ∧ (g.P + 2 ≤ g.J ∧ g.J ≤ 64) ∧ (8 * g.S ≤ g.L ∧ g.L ≤ 512) ∧ (1 ≤ g.E) ∧ (g.T ≤ g.E)) ∨
    (mayG g = false ∧ (1 ≤ g.N ∧ g.N ≤ 16) ∧ (1 ≤ g.S ∧ g.S ≤ g.N) ∧ (1 ≤ g.B ∧ g.B ≤ 64) ∧ (1 ≤ g.P ∧ g.P ≤ 8) ∧ (g.P + 2 ≤ g.J ∧ g.J ≤ 64) ∧ (8 * g.S ≤ g.L ∧ g.L ≤ 512) ∧ (1 ≤ g.E) ∧ (g.E < g.T) ∧ (1048576 < g.T)) ∨
    (mayG g = true ∧ (1 ≤ g.N ∧ g.N ≤ 16) ∧ (1 ≤ g.S ∧ g.S ≤ g.N) ∧ (1 ≤ g.B ∧ g.B ≤ 64) ∧ (1 ≤ g.P ∧ g.P ≤ 8) ∧ (g.P + 2 ≤ g.J ∧ g.J ≤ 64) ∧ (8 * g.S ≤ g.L ∧ g.L ≤ 512) ∧ (1 ≤ g.E) ∧ (g.E < g.T) ∧ (g.T ≤ 1048576)) := by
  by_cases h0 : 1 ≤ g.N ∧ g.N ≤ 16
  rotate_left
  · exact .inl ⟨may_no (fun h => h0 (by simp only [h, and_self])), by omega⟩
  by_cases h1 : 1 ≤ g.S ∧ g.S ≤ g.N
  rotate_left
  · exact .inr (.inl ⟨may_no (fun h => h1 (by simp only [h, and_self])), h0, by omega⟩)
  by_cases h2 : 1 ≤ g.B ∧ g.B ≤ 64
  rotate_left
  · exact .inr (.inr (.inl ⟨may_no (fun h => h2 (by simp only [h, and_self])), h0, h1, by omega⟩))
  by_cases h3 : 1 ≤ g.P ∧ g.P ≤ 8
  rotate_left
  · exact .inr (.inr (.inr (.inl ⟨may_no (fun h => h3 (by simp only [h, and_self])), h0, h1, h2, by omega⟩)))
  by_cases h4 : g.P + 2 ≤ g.J ∧ g.J ≤ 64
  rotate_left
  · exact .inr (.inr (.inr (.inr (.inl ⟨may_no (fun h => h4 (by simp only [h, and_self])), h0, h1, h2, h3, by omega⟩))))
  by_cases h5 : 8 * g.S ≤ g.L ∧ g.L ≤ 512
  rotate_left
  · exact .inr (.inr (.inr (.inr (.inr (.inl ⟨may_no (fun h => h5 (by simp only [h, and_self])), h0, h1, h2, h3, h4, by omega⟩)))))
  by_cases h6 : 1 ≤ g.E
  rotate_left
  · exact .inr (.inr (.inr (.inr (.inr (.inr (.inl ⟨may_no (fun h => h6 (by simp only [h, and_self])), h0, h1, h2, h3, h4, h5, by omega⟩))))))
  by_cases h7 : g.E < g.T
  rotate_left
  · exact .inr (.inr (.inr (.inr (.inr (.inr (.inr (.inl ⟨may_no (fun h => h7 (by simp only [h, and_self])), h0, h1, h2, h3, h4, h5, h6, by omega⟩)))))))
  by_cases h8 : g.T ≤ 1048576
  rotate_left
  · exact .inr (.inr (.inr (.inr (.inr (.inr (.inr (.inr (.inl ⟨may_no (fun h => h8 (by simp only [h, and_self])), h0, h1, h2, h3, h4, h5, h6, h7, by omega⟩))))))))
  exact .inr (.inr (.inr (.inr (.inr (.inr (.inr (.inr (.inr (⟨may_yes ⟨h0.1, h0.2, h1.1, h1.2, h2.1, h2.2, h3.1, h3.2, h4.1, h4.2, h5.1, h5.2, h6, h7, h8⟩, h0, h1, h2, h3, h4, h5, h6, h7, h8⟩)))))))))

end Go.Proofs.YtjdacpnfgpdjhaaDoor
