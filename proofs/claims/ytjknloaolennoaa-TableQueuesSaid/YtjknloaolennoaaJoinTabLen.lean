/- Joined: Aid, SpanMath, TabMath, TabMore, TabLen. -/
import Derived.Test.YtjknloaolennoaaRows
import Derived.WalkKit
import Derived.Lib.Hide
import Derived.WalkLawsBesides
import Derived.WalkSpells
import Derived.IntWalk
import Derived.Deep.MidRow
import Derived.Test.YtjknloaolennoaaCmdMath
/-
  What every walk wants: results, draws, calls that make memory, tests; blocks that are known whole; rows of texts.
-/
namespace Go.Proofs.Ytjknloaolennoaa
open Go.RowKit
set_option linter.unusedVariables false
set_option linter.unusedSimpArgs false

theorem ret_int {k : IntKind} {a b : Int} (h : a = b) : Ending.returned (.int k a) = .returned (.int k b) := by rw [h]
theorem ret_bool {a b : Bool} (h : a = b) : Ending.returned (.bool a) = .returned (.bool b) := by rw [h]
/-- Behind a call that makes memory alone old cells read as before. -/
theorem bcell {W w1 : World} (hb : Below W.heap.size W w1) : (∀ b o, b < W.heap.size → w1.cell? ⟨b, o, none⟩ = W.cell? ⟨b, o, none⟩) ∧ (∀ b o, b < W.heap.size → w1.frozen? ⟨b, o, none⟩ = W.frozen? ⟨b, o, none⟩) :=
  ⟨fun b o h => hb.cell (p := ⟨b, o, none⟩) h, fun b o h => hb.frozen (p := ⟨b, o, none⟩) h⟩
theorem boxed {w w1 : World} {o : Obj} (hb : Below (w.alloc o).heap.size (w.alloc o) w1) : Below w.heap.size w w1 := ((Below.refl _ _).alloc (Nat.le_refl _) _).trans (hb.mono (by simp))
theorem drewN_below (w : World) (q B : Nat) : Below B w (w.drewN q) := ⟨rfl, rfl, rfl, Nat.le_refl _, fun _ _ => rfl⟩
theorem boxed_d {w w1 : World} {o : Obj} (hb : Below (w.alloc o).drew.heap.size (w.alloc o).drew w1) : Below w.heap.size w w1 := (((Below.refl _ _).alloc (Nat.le_refl _) _).drew).trans (hb.mono (by simp))
theorem quo_bd {d e : Int} (h0 : 0 ≤ d) (h1 : 1 ≤ e) : 0 ≤ d / e ∧ d / e ≤ d ∧ 0 ≤ d % e ∧ d % e < e :=
  ⟨Int.ediv_nonneg h0 (by omega), Int.ediv_le_self _ h0, Int.emod_nonneg _ (by omega), Int.emod_lt_of_pos _ (by omega)⟩
theorem below_then {w W W' : World} (h : Below w.heap.size w W) (k : Below W.heap.size W W') : Below w.heap.size w W' := h.trans (k.mono h.size)
theorem beq_no {a b : Int} (h : a ≠ b) : (a == b) = false := by simpa using h
theorem beq_yes {a b : Int} (h : a = b) : (a == b) = true := by simpa using h
theorem dec_lt_no {a b : Int} (h : b ≤ a) : decide (a < b) = false := decide_eq_false (by omega)
/-- A result that lies in a block of the call's own. -/
theorem results_cell {P : Program} {fn : Func} {t : Tmp} {ty : TypeId} (h : fn.results = #[.cell t ty]) {tmps : Array Value} {w : World} {b : Nat} {cs : List Value} {d : TypeDesc}
    (hp : tmps.getD t undef = .pointer (some ⟨b, 0, none⟩)) (hr : w.rangeAt b 0 cs) (hu : P.underlying ty = some d) (hd : d.isRow = true) (hi : (P.info? ty).map (·.size) = some cs.length) :
    (results fn tmps).run P w = .ok (.agg cs.toArray) w := by
  have hp' : tmps[t]?.getD undef = .pointer (some ⟨b, 0, none⟩) := by simpa using hp
  simp [results, h, hp', asAddr, run_loadVar_mid w b 0 ty cs d hr hu hd hi]

/-- A block that is known whole. -/
def Blk (w : World) (b : Nat) (cs : Array Value) (T : TypeId) : Prop := w.heap[b]? = some (.cells cs T (0, 0))
section
variable {w w' : World} {b c B o : Nat} {T : TypeId} {cs : Array Value} {v : Value}
theorem Blk.new (w : World) (cs : Array Value) (T : TypeId) : Blk (w.alloc (.cells cs T)) w.heap.size cs T := heap_alloc_new w _
theorem Blk.lt (h : Blk w b cs T) : b < w.heap.size := lt_of_block h
theorem Blk.cell (h : Blk w b cs T) (o : Nat) (v : Value) (hv : cs[o]? = some v) : w.cell? ⟨b, o, none⟩ = some v := by
  simp [World.cell?, show w.heap[b]? = _ from h, hv]
theorem Blk.free (h : Blk w b cs T) (o : Nat) : w.frozen? ⟨b, o, none⟩ = false := by simp [World.frozen?, show w.heap[b]? = _ from h]
theorem Blk.below (h : Blk w b cs T) (hb : Below B w w') (hB : b < B) : Blk w' b cs T := (hb.block b hB).trans h
theorem Blk.alloc (h : Blk w b cs T) (ob : Obj) : Blk (w.alloc ob) b cs T := h.below ((Below.refl w.heap.size w).alloc (Nat.le_refl _) ob) h.lt
theorem Blk.drew (h : Blk w b cs T) : Blk w.drew b cs T := h
theorem Blk.set (h : Blk w b cs T) (o : Nat) (v : Value) : Blk (w.setCell ⟨b, o, none⟩ v) b (cs.setIfInBounds o v) T := by
  have hlt := lt_of_block h
  have h' : w.heap[b] = .cells cs T (0, 0) := by simpa [Array.getElem?_eq_getElem hlt] using (show w.heap[b]? = _ from h)
  show (w.heap.modify b _)[b]? = _
  rw [Array.getElem?_eq_getElem (by simpa using hlt), Array.getElem_modify_self, h']
  rfl
theorem Blk.other (h : Blk w b cs T) (hne : b ≠ c) (o : Nat) (v : Value) : Blk (w.setCell ⟨c, o, none⟩ v) b cs T :=
  (Below.heap_setCell w ⟨c, o, none⟩ v b hne).trans h
theorem Blk.range (h : Blk w b cs T) : w.rangeAt b 0 cs.toList := fun j v hv => by
  rw [Nat.zero_add]
  exact h.cell j v (by simpa using hv)
theorem Blk.there (h : Blk w b cs T) : w.there b 0 cs.size := fun j hj => by
  rw [Nat.zero_add]
  exact ⟨by rw [h.cell j cs[j] (by simp [hj])]; rfl, h.free j⟩
end

/-- Cells in a row are written: what lies elsewhere is as it was. -/
theorem setCells_below : ∀ (vs : List Value) (o : Nat) {w w' : World} {b B : Nat}, Below B w w' → B ≤ b → Below B w (w'.setCells b o vs)
  | [], _, _, _, _, _, h, _ => h
  | v :: vs, o, _, _, _, _, h, hB => setCells_below vs (o + 1) (h.setCell (by simpa using hB) v) hB

end Go.Proofs.Ytjknloaolennoaa

/-
  Spans and holds over plain values: what overlaps, goes together, fits, covers, touches. It speaks of no program's function.
-/
namespace Go.Proofs.Ytjknloaolennoaa
open Go.RowKit
set_option linter.unusedVariables false
set_option linter.unusedSimpArgs false

structure SpanM where
  lo : Int
  hi : Int
deriving DecidableEq
structure HoldM where
  key : Int
  s : SpanM
  m : Int
deriving DecidableEq
instance : Inhabited HoldM := ⟨⟨0, ⟨0, 0⟩, 0⟩⟩

def sMayB (B : Int) (s : SpanM) : Bool := decide (0 ≤ s.lo) && (decide (s.lo ≤ s.hi) && decide (s.hi < B))
def sHoldB (B : Int) (h : HoldM) : Bool := decide (1 ≤ h.key) && (sMayB B h.s && ((h.m == 1) || (h.m == 2)))
def sOv (a b : SpanM) : Bool := decide (a.lo ≤ a.hi) && (decide (b.lo ≤ b.hi) && (decide (a.lo ≤ b.hi) && decide (b.lo ≤ a.hi)))
def sTog (a b : HoldM) : Bool := (a.key == b.key) || (!sOv a.s b.s || ((a.m == 1) && (b.m == 1)))
def sFits (h : HoldM) (l : List HoldM) : Bool := l.all (sTog h)
def sHas (key block mode : Int) (h : HoldM) : Bool := (h.key == key) && (decide (h.s.lo ≤ block) && (decide (block ≤ h.s.hi) && ((h.m == mode) || (h.m == 2))))
def sCov (l : List HoldM) (key block mode : Int) : Bool := l.any (sHas key block mode)
def sTou (l : List HoldM) (key : Int) (s : SpanM) : Bool := l.any fun h => (h.key == key) && sOv h.s s
def sAll (l : List HoldM) : Bool := (List.range l.length).all fun i => sFits (l.getD i default) (l.take i)

theorem s_ov_iff {a b : SpanM} : sOv a b = true ↔ a.lo ≤ a.hi ∧ b.lo ≤ b.hi ∧ a.lo ≤ b.hi ∧ b.lo ≤ a.hi := by simp [sOv]
theorem s_ov_comm (a b : SpanM) : sOv a b = sOv b a := by
  rw [Bool.eq_iff_iff, s_ov_iff, s_ov_iff]
  omega
theorem s_tog_iff {a b : HoldM} : sTog a b = true ↔ a.key = b.key ∨ ¬ sOv a.s b.s = true ∨ (a.m = 1 ∧ b.m = 1) := by simp [sTog]
theorem s_tog_comm (a b : HoldM) : sTog a b = sTog b a := by
  rw [Bool.eq_iff_iff, s_tog_iff, s_tog_iff, s_ov_comm a.s b.s]
  constructor
  · rintro (h | h | ⟨h1, h2⟩)
    · exact .inl h.symm
    · exact .inr (.inl h)
    · exact .inr (.inr ⟨h2, h1⟩)
  · rintro (h | h | ⟨h1, h2⟩)
    · exact .inl h.symm
    · exact .inr (.inl h)
    · exact .inr (.inr ⟨h2, h1⟩)
theorem s_tog_self (a : HoldM) : sTog a a = true := by simp [sTog]
theorem s_has_iff {key block mode : Int} {h : HoldM} : sHas key block mode h = true ↔ h.key = key ∧ h.s.lo ≤ block ∧ block ≤ h.s.hi ∧ (h.m = mode ∨ h.m = 2) := by simp [sHas]

/-! ### Loops: as far as k -/
theorem s_fits_take {h : HoldM} {l : List HoldM} {k : Nat} (hk : k < l.length) : sFits h (l.take (k + 1)) = (sFits h (l.take k) && sTog h l[k]) := by
  unfold sFits
  rw [List.take_succ_eq_append_getElem hk, List.all_append]
  simp
theorem s_cov_take {l : List HoldM} {key block mode : Int} {k : Nat} (hk : k < l.length) : sCov (l.take (k + 1)) key block mode = (sCov (l.take k) key block mode || sHas key block mode l[k]) := by
  unfold sCov
  rw [List.take_succ_eq_append_getElem hk, List.any_append]
  simp
theorem s_tou_take {l : List HoldM} {key : Int} {s : SpanM} {k : Nat} (hk : k < l.length) : sTou (l.take (k + 1)) key s = (sTou (l.take k) key s || ((l[k].key == key) && sOv l[k].s s)) := by
  unfold sTou
  rw [List.take_succ_eq_append_getElem hk, List.any_append]
  simp
theorem s_fits_no {h : HoldM} {l : List HoldM} {k : Nat} (hk : k < l.length) (ht : sTog h l[k] = false) : sFits h l = false := by
  unfold sFits
  rw [List.all_eq_false]
  exact ⟨l[k], List.getElem_mem hk, by rw [ht]; simp⟩
theorem s_cov_yes {l : List HoldM} {key block mode : Int} {k : Nat} (hk : k < l.length) (h : sHas key block mode l[k] = true) : sCov l key block mode = true := List.any_eq_true.2 ⟨l[k], List.getElem_mem hk, h⟩
theorem s_tou_yes {l : List HoldM} {key : Int} {s : SpanM} {k : Nat} (hk : k < l.length) (h1 : l[k].key = key) (h2 : sOv l[k].s s = true) : sTou l key s = true := List.any_eq_true.2 ⟨l[k], List.getElem_mem hk, by simp [h1, h2]⟩

/-! ### All -/
def sAllK (l : List HoldM) (n : Nat) : Bool := (List.range n).all fun i => sFits (l.getD i default) (l.take i)
theorem s_allK_all (l : List HoldM) : sAllK l l.length = sAll l := rfl
theorem s_allK_zero (l : List HoldM) : sAllK l 0 = true := rfl
theorem s_getD_hold {l : List HoldM} {k : Nat} (hk : k < l.length) : l.getD k default = l[k] := by rw [List.getD, List.getElem?_eq_getElem hk]; rfl
theorem s_allK_succ {l : List HoldM} {k : Nat} (hk : k < l.length) : sAllK l (k + 1) = (sAllK l k && sFits l[k] (l.take k)) := by
  unfold sAllK
  rw [List.range_succ, List.all_append, s_getD_hold hk |>.symm]
  simp
theorem s_all_no {l : List HoldM} {i k : Nat} (hi : i < l.length) (hk : k < i) (h : sTog l[i] (l[k]'(by omega)) = false) : sAll l = false := by
  unfold sAll
  rw [List.all_eq_false]
  refine ⟨i, List.mem_range.2 hi, ?_⟩
  rw [s_getD_hold hi]
  have hl : k < (l.take i).length := by rw [List.length_take]; omega
  rw [s_fits_no hl (by rw [List.getElem_take]; exact h)]
  simp
theorem s_all_pair {l : List HoldM} (h : sAll l = true) {i j : Nat} (hi : i < l.length) (hj : j < l.length) : sTog l[i] l[j] = true := by
  have key : ∀ a b (ha : a < l.length) (hb : b < a), sTog l[a] (l[b]'(by omega)) = true := fun a b ha hb => by
    rcases ht : sTog l[a] (l[b]'(by omega)) with _ | _
    · rw [s_all_no ha hb ht] at h
      cases h
    · rfl
  rcases Nat.lt_trichotomy i j with h1 | h1 | h1
  · rw [s_tog_comm]
    exact key j i hj h1
  · subst h1
    exact s_tog_self _
  · exact key i j hi h1
theorem s_all_of {l : List HoldM} (h : ∀ a b (ha : a < l.length) (hb : b < a), sTog l[a] (l[b]'(by omega)) = true) : sAll l = true := by
  unfold sAll
  rw [List.all_eq_true]
  intro i hi
  have hi := List.mem_range.1 hi
  rw [s_getD_hold hi]
  unfold sFits
  rw [List.all_eq_true]
  intro x hx
  obtain ⟨b, hb, rfl⟩ := List.getElem_of_mem hx
  rw [List.length_take] at hb
  rw [List.getElem_take]
  exact h i b hi (by omega)
/-- Whoever is of them fits. -/
theorem s_all_fits {l : List HoldM} (h : sAll l = true) {i : Nat} (hi : i < l.length) : sFits l[i] l = true := by
  unfold sFits
  rw [List.all_eq_true]
  intro x hx
  obtain ⟨j, hj, rfl⟩ := List.getElem_of_mem hx
  exact s_all_pair h hi hj
/-- Whoever fits may be put behind. -/
theorem s_all_more {l : List HoldM} (h : sAll l = true) (x : HoldM) : sAll (l ++ [x]) = sFits x l := by
  have hl : l.length < (l ++ [x]).length := by simp
  rw [← s_allK_all, show (l ++ [x]).length = l.length + 1 by simp, s_allK_succ hl]
  have h1 : sAllK (l ++ [x]) l.length = true := by
    rw [← h]
    unfold sAllK sAll
    rw [Bool.eq_iff_iff, List.all_eq_true, List.all_eq_true]
    constructor
    · intro g i hi
      have hi' := List.mem_range.1 hi
      have g := g i hi
      rwa [List.take_append_of_le_length (by omega), List.getD, List.getElem?_append_left hi'] at g
    · intro g i hi
      have hi' := List.mem_range.1 hi
      have g := g i hi
      rwa [List.take_append_of_le_length (by omega), List.getD, List.getElem?_append_left hi']
  rw [h1, Bool.true_and, List.take_append_of_le_length (Nat.le_refl _), List.take_length]
  simp
/-- No block is covered by two keys, one of them alone. -/
theorem s_all_cov {l : List HoldM} (h : sAll l = true) {a b block : Int} (hab : a ≠ b) (h1 : sCov l a block 2 = true) : sCov l b block 1 = false := by
  rcases h2 : sCov l b block 1 with _ | _
  · rfl
  · exfalso
    obtain ⟨x, hx, h1⟩ := List.any_eq_true.1 h1
    obtain ⟨y, hy, h2⟩ := List.any_eq_true.1 h2
    obtain ⟨i, hi, rfl⟩ := List.getElem_of_mem hx
    obtain ⟨j, hj, rfl⟩ := List.getElem_of_mem hy
    obtain ⟨a1, a2, a3, a4⟩ := s_has_iff.1 h1
    obtain ⟨b1, b2, b3, b4⟩ := s_has_iff.1 h2
    rcases s_tog_iff.1 (s_all_pair h hi hj) with h3 | h3 | ⟨h3, h4⟩
    · exact hab (by rw [← a1, ← b1, h3])
    · exact h3 (s_ov_iff.2 (by omega))
    · omega

/-! ### Parts -/
theorem s_ov_parts {a b : SpanM} {t : Int} (h1 : a.lo ≤ t) (h2 : t < a.hi) : sOv a b = (sOv ⟨a.lo, t⟩ b || sOv ⟨t + 1, a.hi⟩ b) := by
  rw [Bool.eq_iff_iff, Bool.or_eq_true, s_ov_iff, s_ov_iff, s_ov_iff]
  simp only
  omega
theorem s_ov_apart {lo hi t : Int} : sOv ⟨lo, t⟩ ⟨t + 1, hi⟩ = false := by
  rcases h : sOv ⟨lo, t⟩ ⟨t + 1, hi⟩ with _ | _
  · rfl
  · have := s_ov_iff.1 h
    simp only at this
    omega
theorem s_tou_parts {l : List HoldM} {key : Int} {a : SpanM} {t : Int} (h1 : a.lo ≤ t) (h2 : t < a.hi) : sTou l key a = (sTou l key ⟨a.lo, t⟩ || sTou l key ⟨t + 1, a.hi⟩) := by
  unfold sTou
  induction l with
  | nil => rfl
  | cons x l ih =>
    rw [List.any_cons, List.any_cons, List.any_cons, ih, s_ov_comm x.s a, s_ov_parts h1 h2, s_ov_comm ⟨a.lo, t⟩ x.s, s_ov_comm ⟨t + 1, a.hi⟩ x.s]
    cases (x.key == key) <;> cases sOv x.s ⟨a.lo, t⟩ <;> cases sOv x.s ⟨t + 1, a.hi⟩ <;> simp
theorem s_tog_parts {key m : Int} {a : SpanM} {t : Int} (h1 : a.lo ≤ t) (h2 : t < a.hi) (x : HoldM) : sTog ⟨key, a, m⟩ x = (sTog ⟨key, ⟨a.lo, t⟩, m⟩ x && sTog ⟨key, ⟨t + 1, a.hi⟩, m⟩ x) := by
  unfold sTog
  simp only
  rw [s_ov_parts h1 h2]
  cases (key == x.key) <;> cases sOv ⟨a.lo, t⟩ x.s <;> cases sOv ⟨t + 1, a.hi⟩ x.s <;> cases (m == 1) <;> cases (x.m == 1) <;> rfl
theorem s_fits_parts {l : List HoldM} {key m : Int} {a : SpanM} {t : Int} (h1 : a.lo ≤ t) (h2 : t < a.hi) : sFits ⟨key, a, m⟩ l = (sFits ⟨key, ⟨a.lo, t⟩, m⟩ l && sFits ⟨key, ⟨t + 1, a.hi⟩, m⟩ l) := by
  unfold sFits
  induction l with
  | nil => rfl
  | cons x l ih =>
    rw [List.all_cons, List.all_cons, List.all_cons, ih, s_tog_parts h1 h2]
    cases sTog ⟨key, ⟨a.lo, t⟩, m⟩ x <;> cases sTog ⟨key, ⟨t + 1, a.hi⟩, m⟩ x <;> simp

/-! ### Blocks -/
/-- Is some block below n of both? -/
def sSome (a b : SpanM) (n : Nat) : Bool := (List.range n).any fun k => decide (a.lo ≤ (k : Int)) && (decide ((k : Int) ≤ a.hi) && (decide (b.lo ≤ (k : Int)) && decide ((k : Int) ≤ b.hi)))
theorem s_some_succ (a b : SpanM) (n : Nat) : sSome a b (n + 1) = (sSome a b n || (decide (a.lo ≤ (n : Int)) && (decide ((n : Int) ≤ a.hi) && (decide (b.lo ≤ (n : Int)) && decide ((n : Int) ≤ b.hi))))) := by
  unfold sSome
  rw [List.range_succ, List.any_append]
  simp
theorem s_some_all {a b : SpanM} (h1 : 0 ≤ a.lo) (h2 : a.lo ≤ a.hi) (h3 : a.hi < 64) (h4 : 0 ≤ b.lo) (h5 : b.lo ≤ b.hi) (h6 : b.hi < 64) : sSome a b 64 = sOv a b := by
  rw [Bool.eq_iff_iff, s_ov_iff]
  unfold sSome
  rw [List.any_eq_true]
  constructor
  · rintro ⟨k, _, h⟩
    simp only [Bool.and_eq_true, decide_eq_true_iff] at h
    omega
  · intro h
    refine ⟨(max a.lo b.lo).toNat, List.mem_range.2 (by omega), ?_⟩
    simp only [Bool.and_eq_true, decide_eq_true_iff]
    omega

/-! ### What a key has -/
/-- One of the first k covers the block alone; in some mode; whatever its mode. -/
def sOwnK (l : List HoldM) (key block : Int) (k : Nat) : Bool := sCov (l.take k) key block 2
def sOn (l : List HoldM) (key block : Int) : Bool := l.any fun h => (h.key == key) && (decide (h.s.lo ≤ block) && decide (block ≤ h.s.hi))
theorem s_on_take {l : List HoldM} {key block : Int} {k : Nat} (hk : k < l.length) : sOn (l.take (k + 1)) key block = (sOn (l.take k) key block || ((l[k].key == key) && (decide (l[k].s.lo ≤ block) && decide (block ≤ l[k].s.hi)))) := by
  unfold sOn
  rw [List.take_succ_eq_append_getElem hk, List.any_append]
  simp
theorem s_on_tou (l : List HoldM) (key block : Int) : sTou l key ⟨block, block⟩ = sOn l key block := by
  unfold sTou sOn
  congr 1
  funext h
  congr 1
  rw [Bool.eq_iff_iff, s_ov_iff, Bool.and_eq_true, decide_eq_true_iff, decide_eq_true_iff]
  simp only
  omega

end Go.Proofs.Ytjknloaolennoaa

/-
  Tables over plain values: granting, what a command comes to, which may be, and that it stays so. It speaks of no program's function.
-/
namespace Go.Proofs.Ytjknloaolennoaa
set_option linter.unusedVariables false
set_option linter.unusedSimpArgs false

structure SlotM where
  key : Int
  claim : Int
deriving DecidableEq
instance : Inhabited SlotM := ⟨⟨0, 0⟩⟩
structure TabM where
  sl : List SlotM
  ho : List HoldM
  qu : List HoldM
deriving DecidableEq

/-! ### Granting -/
def grantGo : List HoldM → List HoldM → List HoldM → List HoldM × List HoldM
  | [], ho, q => (ho, q)
  | h :: r, ho, q => if sFits h ho = true ∧ sFits h q = true then grantGo r (ho ++ [h]) q else grantGo r ho (q ++ [h])
def grantT (t : TabM) : TabM := { sl := t.sl, ho := (grantGo t.qu t.ho []).1, qu := (grantGo t.qu t.ho []).2 }
theorem fits_append (h : HoldM) (l m : List HoldM) : sFits h (l ++ m) = (sFits h l && sFits h m) := by simp [sFits]
theorem grant_perm : ∀ (r ho q : List HoldM), ((grantGo r ho q).1 ++ (grantGo r ho q).2).Perm (ho ++ q ++ r)
  | [], ho, q => by simp [grantGo]
  | h :: r, ho, q => by
    unfold grantGo
    split
    · refine (grant_perm r (ho ++ [h]) q).trans ?_
      have : (ho ++ [h] ++ q).Perm (ho ++ q ++ [h]) := by
        rw [List.append_assoc, List.append_assoc]
        exact List.Perm.append_left ho List.perm_append_comm
      have h2 := this.append_right r
      simpa using h2
    · refine (grant_perm r ho (q ++ [h])).trans ?_
      simp
theorem grant_ho : ∀ (r ho q : List HoldM), ∃ s, (grantGo r ho q).1 = ho ++ s ∧ s.Sublist r
  | [], ho, q => ⟨[], by simp [grantGo], List.Sublist.refl _⟩
  | h :: r, ho, q => by
    unfold grantGo
    split
    · obtain ⟨s, e, hs⟩ := grant_ho r (ho ++ [h]) q
      exact ⟨h :: s, by rw [e]; simp, hs.cons_cons h⟩
    · obtain ⟨s, e, hs⟩ := grant_ho r ho (q ++ [h])
      exact ⟨s, e, hs.cons h⟩
theorem grant_qu : ∀ (r ho q : List HoldM), ∃ s, (grantGo r ho q).2 = q ++ s ∧ s.Sublist r
  | [], ho, q => ⟨[], by simp [grantGo], List.Sublist.refl _⟩
  | h :: r, ho, q => by
    unfold grantGo
    split
    · obtain ⟨s, e, hs⟩ := grant_qu r (ho ++ [h]) q
      exact ⟨s, e, hs.cons h⟩
    · obtain ⟨s, e, hs⟩ := grant_qu r ho (q ++ [h])
      exact ⟨h :: s, by rw [e]; simp, hs.cons_cons h⟩
theorem grant_all : ∀ (r ho q : List HoldM), sAll ho = true → sAll (grantGo r ho q).1 = true
  | [], ho, q, h => h
  | x :: r, ho, q, h => by
    unfold grantGo
    split
    · rename_i hc
      exact grant_all r (ho ++ [x]) q (by rw [s_all_more h]; exact hc.1)
    · exact grant_all r ho (q ++ [x]) h
/-- None that is queued could be granted. -/
def Stuck (ho q : List HoldM) : Prop := ∀ (i : Nat) (hi : i < q.length), ¬ (sFits q[i] ho = true ∧ sFits q[i] (q.take i) = true)
theorem stuck_more {ho q : List HoldM} (h : Stuck ho q) (s : List HoldM) : Stuck (ho ++ s) q := fun i hi hc => h i hi ⟨by
  have := hc.1
  rw [fits_append, Bool.and_eq_true] at this
  exact this.1, hc.2⟩
theorem stuck_snoc {ho q : List HoldM} (h : Stuck ho q) {x : HoldM} (hx : ¬ (sFits x ho = true ∧ sFits x q = true)) : Stuck ho (q ++ [x]) := fun i hi hc => by
  rw [List.length_append, List.length_singleton] at hi
  by_cases e : i < q.length
  · rw [List.getElem_append_left e, List.take_append_of_le_length (by omega)] at hc
    exact h i e hc
  · obtain rfl : i = q.length := by omega
    rw [List.getElem_append_right (Nat.le_refl _), List.take_append_of_le_length (Nat.le_refl _), List.take_length] at hc
    simp at hc
    exact hx hc
theorem grant_stuck : ∀ (r ho q : List HoldM), Stuck ho q → Stuck (grantGo r ho q).1 (grantGo r ho q).2
  | [], ho, q, h => h
  | x :: r, ho, q, h => by
    unfold grantGo
    split
    · exact grant_stuck r (ho ++ [x]) q (stuck_more h [x])
    · rename_i hc
      exact grant_stuck r ho (q ++ [x]) (stuck_snoc h hc)
theorem stuck_nil (ho : List HoldM) : Stuck ho [] := fun i hi => by simp at hi
/-- Where none could be granted none is. -/
theorem grant_id : ∀ (r ho q : List HoldM), Stuck ho (q ++ r) → grantGo r ho q = (ho, q ++ r)
  | [], ho, q, h => by simp [grantGo]
  | x :: r, ho, q, h => by
    unfold grantGo
    have hx := h q.length (by simp)
    rw [List.getElem_append_right (Nat.le_refl _), List.take_append_of_le_length (Nat.le_refl _), List.take_length] at hx
    simp only [Nat.sub_self, List.getElem_cons_zero] at hx
    rw [if_neg hx, grant_id r ho (q ++ [x]) (by simpa using h)]
    simp
theorem grant_len : ∀ (r ho q : List HoldM), (grantGo r ho q).2.length = (q ++ r).length → Stuck ho q → Stuck ho (q ++ r)
  | [], ho, q, _, h => by simpa using h
  | x :: r, ho, q, hl, h => by
    unfold grantGo at hl
    split at hl
    · exfalso
      obtain ⟨s, e, hs⟩ := grant_qu r (ho ++ [x]) q
      rw [e] at hl
      have := hs.length_le
      simp at hl
      omega
    · rename_i hc
      have := grant_len r ho (q ++ [x]) (by simpa using hl) (stuck_snoc h hc)
      simpa using this
/-- As the document asks it. -/
theorem stuck_iff (ho q : List HoldM) : (grantGo q ho []).2.length = q.length ↔ Stuck ho q := by
  constructor
  · intro h
    have := grant_len q ho [] (by simpa using h) (stuck_nil ho)
    simpa using this
  · intro h
    rw [grant_id q ho [] (by simpa using h)]
    simp

/-! ### Which may be -/
/-- Two of one key that overlap. -/
def Clash (a b : HoldM) : Prop := a.key = b.key ∧ sOv a.s b.s = true
theorem clash_comm {a b : HoldM} (h : Clash a b) : Clash b a := ⟨h.1.symm, by rw [s_ov_comm]; exact h.2⟩
def Apart (l : List HoldM) : Prop := l.Pairwise fun a b => ¬ Clash a b
theorem apart_perm {l m : List HoldM} (h : l.Perm m) : Apart l ↔ Apart m := h.pairwise_iff fun hab hc => hab (clash_comm hc)
def countK (l : List HoldM) (key : Int) : Nat := (l.filter fun h => h.key == key).length
theorem count_perm {l m : List HoldM} (h : l.Perm m) (key : Int) : countK l key = countK m key := (h.filter _).length_eq
def Member (sl : List SlotM) (key : Int) : Prop := 1 ≤ key ∧ ∃ x ∈ sl, x.key = key
structure SlotsOk (sl : List SlotM) : Prop where
  k0 : ∀ x ∈ sl, 0 ≤ x.key ∧ 0 ≤ x.claim
  free : ∀ x ∈ sl, x.key = 0 → x.claim = 0
  one : ∀ (i j : Nat) (hi : i < sl.length) (hj : j < sl.length), (sl[i]).key = (sl[j]).key → (sl[i]).key ≠ 0 → i = j
structure MayT (B : Int) (n : Nat) (t : TabM) : Prop where
  len : t.sl.length = n
  sok : SlotsOk t.sl
  all : sAll t.ho = true
  mem : ∀ h ∈ t.ho ++ t.qu, Member t.sl h.key
  hol : ∀ h ∈ t.ho ++ t.qu, sHoldB B h = true
  ap : Apart (t.ho ++ t.qu)
  cnt : ∀ key, countK (t.ho ++ t.qu) key ≤ 64
  st : Stuck t.ho t.qu
/-- All but that none could be granted. -/
structure MayQ (B : Int) (n : Nat) (t : TabM) : Prop where
  len : t.sl.length = n
  sok : SlotsOk t.sl
  all : sAll t.ho = true
  mem : ∀ h ∈ t.ho ++ t.qu, Member t.sl h.key
  hol : ∀ h ∈ t.ho ++ t.qu, sHoldB B h = true
  ap : Apart (t.ho ++ t.qu)
  cnt : ∀ key, countK (t.ho ++ t.qu) key ≤ 64
theorem MayT.q {B : Int} {n : Nat} {t : TabM} (h : MayT B n t) : MayQ B n t := ⟨h.len, h.sok, h.all, h.mem, h.hol, h.ap, h.cnt⟩
theorem may_grant {B : Int} {n : Nat} {t : TabM} (h : MayQ B n t) : MayT B n (grantT t) := by
  have hp := grant_perm t.qu t.ho []
  rw [List.append_nil] at hp
  exact ⟨h.len, h.sok, grant_all _ _ _ h.all, fun x hx => h.mem x (hp.mem_iff.1 hx), fun x hx => h.hol x (hp.mem_iff.1 hx), (apart_perm hp).2 h.ap, fun k => by
    show countK ((grantGo t.qu t.ho []).1 ++ (grantGo t.qu t.ho []).2) k ≤ 64
    rw [count_perm hp]
    exact h.cnt k, grant_stuck _ _ _ (stuck_nil _)⟩
theorem all_sub {l m : List HoldM} (h : l.Sublist m) (hm : sAll m = true) : sAll l = true := by
  have key : m.Pairwise fun a b => sTog a b = true := by
    rw [List.pairwise_iff_getElem]
    intro i j hi hj hij
    exact s_all_pair hm hi hj
  have hl := key.sublist h
  rw [List.pairwise_iff_getElem] at hl
  refine s_all_of fun a b ha hb => ?_
  rw [s_tog_comm]
  exact hl b a (by omega) ha hb
/-- Fewer holds, fewer queued. -/
theorem may_less {B : Int} {n : Nat} {t : TabM} {ho qu : List HoldM} (h : MayQ B n t) (h1 : ho.Sublist t.ho) (h2 : qu.Sublist t.qu) : MayQ B n ⟨t.sl, ho, qu⟩ := by
  have hs : (ho ++ qu).Sublist (t.ho ++ t.qu) := h1.append h2
  exact ⟨h.len, h.sok, all_sub h1 h.all, fun x hx => h.mem x (hs.subset hx), fun x hx => h.hol x (hs.subset hx), h.ap.sublist hs, fun k => Nat.le_trans ((hs.filter _).length_le) (h.cnt k)⟩

/-! ### Slots -/
def slotI (t : TabM) (key : Int) : Option Nat := if 1 ≤ key then t.sl.findIdx? fun x => x.key == key else none
theorem slot_some {t : TabM} {key : Int} {i : Nat} (h : slotI t key = some i) : 1 ≤ key ∧ ∃ hi : i < t.sl.length, (t.sl[i]).key = key := by
  unfold slotI at h
  split at h
  · rename_i h1
    rw [List.findIdx?_eq_some_iff_getElem] at h
    obtain ⟨hi, hk, _⟩ := h
    exact ⟨h1, hi, by simpa using hk⟩
  · cases h
theorem slot_none {t : TabM} {key : Int} (h : slotI t key = none) : ¬ Member t.sl key := by
  rintro ⟨h1, x, hx, hk⟩
  unfold slotI at h
  rw [if_pos h1, List.findIdx?_eq_none_iff] at h
  have := h x hx
  simp [hk] at this
theorem slots_set {sl : List SlotM} (h : SlotsOk sl) {i : Nat} (hi : i < sl.length) {x : SlotM} (h0 : 0 ≤ x.key ∧ 0 ≤ x.claim) (hf : x.key = 0 → x.claim = 0) (ho : ∀ (j : Nat) (hj : j < sl.length), j ≠ i → x.key ≠ 0 → (sl[j]).key ≠ x.key) : SlotsOk (sl.set i x) := by
  refine ⟨fun y hy => ?_, fun y hy => ?_, fun a b ha hb he hne => ?_⟩
  · rcases List.mem_or_eq_of_mem_set hy with h1 | rfl
    · exact h.k0 y h1
    · exact h0
  · rcases List.mem_or_eq_of_mem_set hy with h1 | rfl
    · exact h.free y h1
    · exact hf
  · rw [List.length_set] at ha hb
    rw [List.getElem_set] at he hne
    rw [List.getElem_set] at he
    by_cases ea : i = a
    · rw [if_pos ea] at he hne
      by_cases eb : i = b
      · omega
      · rw [if_neg eb] at he
        exact absurd he.symm (ho b hb (by omega) hne)
    · rw [if_neg ea] at he hne
      by_cases eb : i = b
      · rw [if_pos eb] at he
        exact absurd he (ho a ha (by omega) (by rw [← he]; exact hne))
      · rw [if_neg eb] at he
        exact h.one a b ha hb he hne
theorem member_set {sl : List SlotM} {i : Nat} (hi : i < sl.length) {x : SlotM} {key : Int} (h : Member sl key) (hk : (sl[i]).key ≠ key ∨ x.key = key) : Member (sl.set i x) key := by
  obtain ⟨h1, y, hy, rfl⟩ := h
  refine ⟨h1, ?_⟩
  obtain ⟨j, hj, rfl⟩ := List.getElem_of_mem hy
  by_cases e : i = j
  · subst e
    rcases hk with hk | hk
    · exact absurd rfl hk
    · exact ⟨x, List.mem_set hi x, hk⟩
  · exact ⟨sl[j], List.mem_iff_getElem.2 ⟨j, by rw [List.length_set]; exact hj, by rw [List.getElem_set_ne e]⟩, rfl⟩

/-! ### Commands -/
def without (l : List HoldM) (key : Int) : List HoldM := l.filter fun h => h.key != key
def leaveT (t : TabM) (i : Nat) : TabM := grantT { sl := t.sl.set i ⟨0, 0⟩, ho := without t.ho (t.sl.getD i default).key, qu := without t.qu (t.sl.getD i default).key }
def atO (l : List HoldM) (key : Int) (s : SpanM) : Option Nat := l.findIdx? fun h => h.key == key && decide (h.s = s)
def freeT (t : TabM) (key : Int) (s : SpanM) : TabM :=
  match atO t.ho key s with
  | some k => grantT { t with ho := t.ho.eraseIdx k }
  | none => match atO t.qu key s with
    | some k => grantT { t with qu := t.qu.eraseIdx k }
    | none => t
def askOk (B : Int) (t : TabM) (h : HoldM) : Bool := (slotI t h.key).isSome && (sHoldB B h && (!sTou (t.ho ++ t.qu) h.key h.s && decide (countK (t.ho ++ t.qu) h.key < 64)))
def claimOf (t : TabM) (key : Int) : Option Int := (slotI t key).map fun i => (t.sl.getD i default).claim
def applyT (B : Int) (t : TabM) (c : CmdM) : TabM :=
  if c.kind = 0 then
    (if (slotI t c.by_).isSome then t else match t.sl.findIdx? fun x => x.key == 0 with
      | some i => { t with sl := t.sl.set i ⟨c.by_, (t.sl.getD i default).claim⟩ }
      | none => t)
  else if c.kind = 1 then (match slotI t c.by_ with | some i => leaveT t i | none => t)
  else if c.kind = 2 then (if askOk B t ⟨c.by_, ⟨c.lo, c.hi⟩, c.mode⟩ = true then grantT { t with qu := t.qu ++ [⟨c.by_, ⟨c.lo, c.hi⟩, c.mode⟩] } else t)
  else if c.kind = 3 then freeT t c.by_ ⟨c.lo, c.hi⟩
  else if c.kind = 4 then (match slotI t c.dead with
    | some i => if (t.sl.getD i default).claim = c.was ∧ c.by_ ≠ c.dead then { t with sl := t.sl.set i ⟨(t.sl.getD i default).key, c.by_⟩ } else t
    | none => t)
  else if c.kind = 5 then (match slotI t c.dead with
    | some i => if c.by_ ≠ 0 ∧ (t.sl.getD i default).claim = c.by_ then leaveT t i else t
    | none => t)
  else t

theorem without_sub (l : List HoldM) (key : Int) : (without l key).Sublist l := List.filter_sublist
theorem without_key {l : List HoldM} {key : Int} {h : HoldM} (hh : h ∈ without l key) : h.key ≠ key := by
  have := (List.mem_filter.1 hh).2
  simpa using this
theorem getD_slot {sl : List SlotM} {i : Nat} (hi : i < sl.length) : sl.getD i default = sl[i] := by rw [List.getD, List.getElem?_eq_getElem hi]; rfl
theorem may_leave {B : Int} {n : Nat} {t : TabM} (h : MayT B n t) {key : Int} {i : Nat} (hs : slotI t key = some i) : MayT B n (leaveT t i) := by
  obtain ⟨h1, hi, hk⟩ := slot_some hs
  unfold leaveT
  rw [getD_slot hi, hk]
  have hl := may_less h.q (without_sub t.ho key) (without_sub t.qu key)
  refine may_grant ⟨by rw [List.length_set]; exact h.len, slots_set h.sok hi (by simp) (fun _ => rfl) (fun j hj hne h0 => absurd rfl h0), hl.all, fun x hx => ?_, hl.hol, hl.ap, hl.cnt⟩
  refine member_set hi (hl.mem x hx) (.inl ?_)
  rw [hk]
  rcases List.mem_append.1 hx with h2 | h2
  · exact fun e => without_key h2 e.symm
  · exact fun e => without_key h2 e.symm
theorem at_some {l : List HoldM} {key : Int} {s : SpanM} {k : Nat} (h : atO l key s = some k) : ∃ hk : k < l.length, (l[k]).key = key ∧ (l[k]).s = s := by
  unfold atO at h
  rw [List.findIdx?_eq_some_iff_getElem] at h
  obtain ⟨hk, h1, _⟩ := h
  simp at h1
  exact ⟨hk, h1⟩
theorem tou_no {l : List HoldM} {key : Int} {s : SpanM} (h : sTou l key s = false) : ∀ x ∈ l, ¬ (x.key = key ∧ sOv x.s s = true) := fun x hx hc => by
  have := List.any_eq_false.1 h x hx
  simp [hc.1, hc.2] at this
/-- Of a table that may be what comes may be. -/
theorem may_apply {B : Int} {n : Nat} {t : TabM} (h : MayT B n t) {c : CmdM} (hc : cMay c = true) : MayT B n (applyT B t c) := by
  obtain ⟨hb, _, _⟩ := cMay_iff.1 hc
  have hb := cKey_iff.1 hb
  unfold applyT
  split
  · -- mount
    split
    · exact h
    · rename_i hs
      have hs : slotI t c.by_ = none := by simpa using hs
      have hno := slot_none hs
      split
      · rename_i i hf
        rw [List.findIdx?_eq_some_iff_getElem] at hf
        obtain ⟨hi, h0, _⟩ := hf
        have h0 : (t.sl[i]).key = 0 := by simpa using h0
        have hcl : (t.sl[i]).claim = 0 := h.sok.free _ (List.getElem_mem hi) h0
        rw [getD_slot hi, hcl]
        refine ⟨by rw [List.length_set]; exact h.len, slots_set h.sok hi ⟨by show 0 ≤ c.by_; omega, by simp⟩ (fun e => rfl) (fun j hj _ _ e => hno ⟨by omega, _, List.getElem_mem hj, e⟩), h.all, fun x hx => member_set hi (h.mem x hx) (.inl ?_), h.hol, h.ap, h.cnt, h.st⟩
        rw [h0]
        have := (h.mem x hx).1
        omega
      · exact h
  · split
    · -- leave
      split
      · rename_i i hs
        exact may_leave h hs
      · exact h
    · split
      · -- ask
        split
        · rename_i ha
          unfold askOk at ha
          simp only [Bool.and_eq_true, Bool.not_eq_true', decide_eq_true_iff] at ha
          obtain ⟨h1, h2, h3, h4⟩ := ha
          obtain ⟨i, hs⟩ := Option.isSome_iff_exists.1 h1
          obtain ⟨g1, hi, hk⟩ := slot_some hs
          have hmem : Member t.sl c.by_ := ⟨g1, _, List.getElem_mem hi, hk⟩
          refine may_grant ⟨h.len, h.sok, h.all, fun x hx => ?_, fun x hx => ?_, ?_, fun k => ?_⟩
          · have hx : x ∈ t.ho ++ (t.qu ++ [⟨c.by_, ⟨c.lo, c.hi⟩, c.mode⟩]) := hx
            rw [← List.append_assoc] at hx
            rcases List.mem_append.1 hx with h5 | h5
            · exact h.mem x h5
            · rw [List.mem_singleton.1 h5]; exact hmem
          · have hx : x ∈ t.ho ++ (t.qu ++ [⟨c.by_, ⟨c.lo, c.hi⟩, c.mode⟩]) := hx
            rw [← List.append_assoc] at hx
            rcases List.mem_append.1 hx with h5 | h5
            · exact h.hol x h5
            · rw [List.mem_singleton.1 h5]; exact h2
          · show Apart (t.ho ++ (t.qu ++ [⟨c.by_, ⟨c.lo, c.hi⟩, c.mode⟩]))
            rw [← List.append_assoc]
            refine List.pairwise_append.2 ⟨h.ap, List.pairwise_singleton _ _, fun a ha b hb' hcl => ?_⟩
            rw [List.mem_singleton.1 hb'] at hcl
            exact tou_no h3 a ha hcl
          · show countK (t.ho ++ (t.qu ++ [⟨c.by_, ⟨c.lo, c.hi⟩, c.mode⟩])) k ≤ 64
            rw [← List.append_assoc]
            have hck := h.cnt k
            unfold countK at hck h4 ⊢
            rw [List.filter_append, List.length_append]
            by_cases e : c.by_ = k
            · subst e
              simp at h4 ⊢
              omega
            · have : (c.by_ == k) = false := by simpa using e
              simp [this]
              simpa using hck
        · exact h
      · split
        · -- free
          unfold freeT
          split
          · exact may_grant (may_less h.q (List.eraseIdx_sublist _ _) (List.Sublist.refl _))
          · split
            · exact may_grant (may_less h.q (List.Sublist.refl _) (List.eraseIdx_sublist _ _))
            · exact h
        · split
          · -- claim
            split
            · rename_i i hs
              split
              · rename_i hcl
                obtain ⟨g1, hi, hk⟩ := slot_some hs
                rw [getD_slot hi, hk]
                refine ⟨by rw [List.length_set]; exact h.len, slots_set h.sok hi ⟨by show 0 ≤ c.dead; omega, by show 0 ≤ c.by_; omega⟩ (fun e => by have : c.dead = 0 := e; omega) (fun j hj hne _ e => hne (h.sok.one j i hj hi (by rw [hk]; exact e) (by rw [show (t.sl[j]).key = c.dead from e]; omega))), h.all, fun x hx => ?_, h.hol, h.ap, h.cnt, h.st⟩
                by_cases e : (t.sl[i]).key = x.key
                · exact member_set hi (h.mem x hx) (.inr (by rw [← e, hk]))
                · exact member_set hi (h.mem x hx) (.inl e)
              · exact h
            · exact h
          · split
            · -- purge
              split
              · rename_i i hs
                split
                · exact may_leave h hs
                · exact h
              · exact h
            · exact h

/-- A new table. -/
def newT (n : Nat) : TabM := ⟨List.replicate n ⟨0, 0⟩, [], []⟩
theorem may_newT (B : Int) (n : Nat) : MayT B n (newT n) := by
  refine ⟨by simp [newT], ⟨fun x hx => ?_, fun x hx _ => ?_, fun i j hi hj _ hne => ?_⟩, rfl, fun h hh => by simp [newT] at hh, fun h hh => by simp [newT] at hh, List.Pairwise.nil, fun k => by simp [newT, countK], stuck_nil _⟩
  · rw [List.eq_of_mem_replicate (show x ∈ List.replicate n _ from hx)]; simp
  · rw [List.eq_of_mem_replicate (show x ∈ List.replicate n _ from hx)]
  · exact absurd (by simp [newT]) hne

end Go.Proofs.Ytjknloaolennoaa

/-
  Tables over plain values: what a command leaves of the others; nobody of the queue passes another that it does not go together with. It speaks of no program's function.
-/
namespace Go.Proofs.Ytjknloaolennoaa
set_option linter.unusedVariables false
set_option linter.unusedSimpArgs false

theorem grantT_ho {t : TabM} {h : HoldM} (hh : h ∈ t.ho) : h ∈ (grantT t).ho := by
  obtain ⟨s, e, _⟩ := grant_ho t.qu t.ho []
  show h ∈ (grantGo t.qu t.ho []).1
  rw [e]
  exact List.mem_append_left _ hh
theorem grantT_both {t : TabM} {h : HoldM} : (h ∈ (grantT t).ho ∨ h ∈ (grantT t).qu) ↔ (h ∈ t.ho ∨ h ∈ t.qu) := by
  have hp := grant_perm t.qu t.ho []
  rw [List.append_nil] at hp
  rw [← List.mem_append, ← List.mem_append]
  exact hp.mem_iff
theorem grantT_qu {t : TabM} {h : HoldM} (hh : h ∈ (grantT t).qu) : h ∈ t.qu := by
  obtain ⟨s, e, hs⟩ := grant_qu t.qu t.ho []
  have hh : h ∈ (grantGo t.qu t.ho []).2 := hh
  rw [e, List.nil_append] at hh
  exact hs.subset hh
theorem mem_erase {l : List HoldM} {k : Nat} {h : HoldM} (hh : h ∈ l) (hk : ∀ hl : k < l.length, l[k] ≠ h) : h ∈ l.eraseIdx k := by
  obtain ⟨i, hi, rfl⟩ := List.getElem_of_mem hh
  rw [List.mem_eraseIdx_iff_getElem]
  refine ⟨i, hi, ?_, rfl⟩
  rintro rfl
  exact hk hi rfl
theorem without_mem {l : List HoldM} {key : Int} {h : HoldM} (hh : h ∈ l) (hk : h.key ≠ key) : h ∈ without l key := List.mem_filter.2 ⟨hh, by simpa using hk⟩

/-- Whose holds a command may take away. -/
def goneK (c : CmdM) : Int := if c.kind = 5 then c.dead else c.by_
/-- What is left of the others. -/
structure Others (key : Int) (t o : TabM) : Prop where
  len : o.sl.length = t.sl.length
  ho : ∀ h ∈ t.ho, h.key ≠ key → h ∈ o.ho
  qu : ∀ h ∈ t.qu, h.key ≠ key → h ∈ o.ho ∨ h ∈ o.qu
  sl : ∀ (i : Nat) (hi : i < t.sl.length) (hj : i < o.sl.length), (t.sl[i]).key ≠ 0 → (t.sl[i]).key ≠ key → (o.sl[i]).key = (t.sl[i]).key
theorem Others.refl (key : Int) (t : TabM) : Others key t t := ⟨rfl, fun h hh _ => hh, fun h hh _ => .inr hh, fun i hi hj _ _ => rfl⟩
theorem others_grant {key : Int} {t u : TabM} (h : Others key t u) : Others key t (grantT u) :=
  ⟨h.len, fun x hx hk => grantT_ho (h.ho x hx hk), fun x hx hk => grantT_both.2 (h.qu x hx hk), h.sl⟩
theorem others_leave {t : TabM} {key : Int} {i : Nat} (hs : slotI t key = some i) : Others key t (leaveT t i) := by
  obtain ⟨_, hi, hk⟩ := slot_some hs
  unfold leaveT
  rw [getD_slot hi, hk]
  refine others_grant ⟨by simp, fun h hh hne => without_mem hh hne, fun h hh hne => .inr (without_mem hh hne), fun j hj hj2 h0 hne => ?_⟩
  show ((t.sl.set i ⟨0, 0⟩)[j]'(by simpa using hj)).key = _
  rw [List.getElem_set_ne]
  rintro rfl
  exact hne hk
theorem others_apply {B : Int} (t : TabM) (c : CmdM) : Others (goneK c) t (applyT B t c) := by
  unfold applyT
  split
  · rename_i hk
    split
    · exact Others.refl _ _
    · split
      · rename_i i hf
        rw [List.findIdx?_eq_some_iff_getElem] at hf
        obtain ⟨hi, h0, _⟩ := hf
        have h0 : (t.sl[i]).key = 0 := by simpa using h0
        refine ⟨by simp, fun h hh _ => hh, fun h hh _ => .inr hh, fun j hj hj2 hne _ => ?_⟩
        show ((t.sl.set i ⟨c.by_, (t.sl.getD i default).claim⟩)[j]'(by simpa using hj)).key = _
        rw [List.getElem_set_ne]
        rintro rfl
        exact hne h0
      · exact Others.refl _ _
  · split
    · rename_i hk
      have hg : goneK c = c.by_ := by unfold goneK; rw [if_neg (by omega)]
      rw [hg]
      split
      · rename_i i hs
        exact others_leave hs
      · exact Others.refl _ _
    · split
      · split
        · exact others_grant ⟨rfl, fun h hh _ => hh, fun h hh _ => .inr (List.mem_append_left _ hh), fun i hi hj _ _ => rfl⟩
        · exact Others.refl _ _
      · split
        · rename_i hk
          have hg : goneK c = c.by_ := by unfold goneK; rw [if_neg (by omega)]
          rw [hg]
          unfold freeT
          split
          · rename_i k hat
            obtain ⟨hl, hkey, _⟩ := at_some hat
            exact others_grant ⟨rfl, fun h hh hne => mem_erase hh (fun _ e => hne (by rw [← e]; exact hkey)), fun h hh _ => .inr hh, fun i hi hj _ _ => rfl⟩
          · split
            · rename_i k hat
              obtain ⟨hl, hkey, _⟩ := at_some hat
              exact others_grant ⟨rfl, fun h hh _ => hh, fun h hh hne => .inr (mem_erase hh (fun _ e => hne (by rw [← e]; exact hkey))), fun i hi hj _ _ => rfl⟩
            · exact Others.refl _ _
        · split
          · split
            · rename_i i hs
              split
              · obtain ⟨_, hi, hk⟩ := slot_some hs
                refine ⟨by simp, fun h hh _ => hh, fun h hh _ => .inr hh, fun j hj hj2 _ _ => ?_⟩
                show ((t.sl.set i ⟨(t.sl.getD i default).key, c.by_⟩)[j]'(by simpa using hj)).key = _
                rw [List.getElem_set]
                split
                · rename_i e
                  subst e
                  rw [getD_slot hi]
                · rfl
              · exact Others.refl _ _
            · exact Others.refl _ _
          · split
            · rename_i hk
              have hg : goneK c = c.dead := by unfold goneK; rw [if_pos hk]
              rw [hg]
              split
              · rename_i i hs
                split
                · exact others_leave hs
                · exact Others.refl _ _
              · exact Others.refl _ _
            · exact Others.refl _ _

/-! ### Nobody passes another -/
theorem apart_nodup {B : Int} {l : List HoldM} (h : Apart l) (hm : ∀ x ∈ l, sHoldB B x = true) : l.Nodup := by
  refine h.imp_of_mem fun {a b} ha hb hc e => ?_
  subst e
  refine hc ⟨rfl, s_ov_iff.2 ?_⟩
  have := hm a ha
  simp [sHoldB, sMayB] at this
  omega
/-- Who is granted goes together with all that were ahead of it and still wait. -/
theorem grant_pass {x y : HoldM} : ∀ (r ho q a b : List HoldM), (ho ++ q ++ r).Nodup → r = a ++ x :: b → (y ∈ q ∨ y ∈ a) → x ∈ (grantGo r ho q).1 → y ∈ (grantGo r ho q).2 → sTog x y = true
  | [], ho, q, a, b, _, e, _, _, _ => by simp at e
  | h :: r, ho, q, a, b, hn, e, hy, hx, hyq => by
    have hp := grant_perm (h :: r) ho q
    have hnd : ((grantGo (h :: r) ho q).1 ++ (grantGo (h :: r) ho q).2).Nodup := hp.nodup_iff.2 hn
    have hdis : ∀ z, z ∈ (grantGo (h :: r) ho q).1 → z ∈ (grantGo (h :: r) ho q).2 → False := fun z h1 h2 => (List.nodup_append.1 hnd).2.2 z h1 z h2 rfl
    unfold grantGo at hx hyq hdis
    cases a with
    | nil =>
      have e1 : h = x ∧ r = b := by simpa using e
      obtain ⟨rfl, rfl⟩ := e1
      have hy : y ∈ q := by simpa using hy
      split at hx
      · rename_i hc
        exact List.all_eq_true.1 hc.2 y hy
      · rename_i hc
        exfalso
        rw [if_neg hc] at hdis
        obtain ⟨s, es, _⟩ := grant_qu r ho (q ++ [h])
        exact hdis h hx (by rw [es]; simp)
    | cons a0 a =>
      have e1 : h = a0 ∧ r = a ++ x :: b := by simpa using e
      obtain ⟨rfl, e2⟩ := e1
      split at hx
      · rename_i hc
        rw [if_pos hc] at hyq hdis
        have hy2 : y ∈ q ∨ y ∈ a := by
          rcases hy with h1 | h1
          · exact .inl h1
          · rcases List.mem_cons.1 h1 with rfl | h1
            · exfalso
              obtain ⟨s, es, _⟩ := grant_ho r (ho ++ [y]) q
              exact hdis y (by rw [es]; simp) hyq
            · exact .inr h1
        refine grant_pass r (ho ++ [h]) q a b ?_ e2 hy2 hx hyq
        have : (ho ++ q ++ h :: r).Perm (ho ++ [h] ++ q ++ r) := by
          have h1 : (ho ++ [h] ++ q).Perm (ho ++ q ++ [h]) := by
            rw [List.append_assoc, List.append_assoc]
            exact List.Perm.append_left ho List.perm_append_comm
          have h2 := (h1.append_right r).symm
          simpa using h2
        exact this.nodup_iff.1 hn
      · rename_i hc
        rw [if_neg hc] at hyq
        refine grant_pass r ho (q ++ [h]) a b (by simpa using hn) e2 ?_ hx hyq
        rcases hy with h1 | h1
        · exact .inl (List.mem_append_left _ h1)
        · rcases List.mem_cons.1 h1 with rfl | h1
          · exact .inl (by simp)
          · exact .inr h1
theorem sub_split {qu l a b : List HoldM} {x y : HoldM} (hs : l.Sublist qu) (hn : qu.Nodup) (e : qu = a ++ x :: b) (hy : y ∈ a) (hxl : x ∈ l) (hyl : y ∈ l) : ∃ a' b', l = a' ++ x :: b' ∧ y ∈ a' := by
  subst e
  obtain ⟨l1, l2, rfl, h1, h2⟩ := List.sublist_append_iff.1 hs
  obtain ⟨_, hn2, hd⟩ := List.nodup_append.1 hn
  have hx1 : x ∉ l1 := fun h => hd x (h1.subset h) x (by simp) rfl
  have hx2 : x ∈ l2 := by
    rcases List.mem_append.1 hxl with h | h
    · exact absurd h hx1
    · exact h
  have hxb : x ∉ b := (List.nodup_cons.1 hn2).1
  cases h2 with
  | cons _ h3 => exact absurd (h3.subset hx2) hxb
  | cons_cons _ h3 =>
    refine ⟨l1, _, rfl, ?_⟩
    rcases List.mem_append.1 hyl with h | h
    · exact h
    · exfalso
      rcases List.mem_cons.1 h with h | h
      · exact hd y hy x (by simp) h
      · exact hd y hy y (List.mem_cons_of_mem _ (h3.subset h)) rfl
theorem pass_less {t : TabM} {sl : List SlotM} {ho qu a b : List HoldM} {x y : HoldM} (hn : (t.ho ++ t.qu).Nodup) (h1 : ho.Sublist t.ho) (h2 : qu.Sublist t.qu) (e : t.qu = a ++ x :: b) (hy : y ∈ a) (hx : x ∈ (grantT ⟨sl, ho, qu⟩).ho) (hxo : x ∉ t.ho) (hyq : y ∈ (grantT ⟨sl, ho, qu⟩).qu) : sTog x y = true := by
  have hyl : y ∈ qu := grantT_qu hyq
  have hxl : x ∈ qu := by
    rcases grantT_both.1 (.inl hx) with h | h
    · exact absurd (h1.subset h) hxo
    · exact h
  have hnq : t.qu.Nodup := (List.nodup_append.1 hn).2.1
  obtain ⟨a', b', e', hy'⟩ := sub_split h2 hnq e hy hxl hyl
  refine grant_pass qu ho [] a' b' ?_ e' (.inr hy') hx hyq
  rw [List.append_nil]
  exact (h1.append h2).nodup hn
theorem queue_apply {B : Int} {n : Nat} {t : TabM} (h : MayT B n t) {c : CmdM} (hc : cMay c = true) {i k : Nat} (hi : i < t.qu.length) (hk : k < i) (h1 : t.qu[i] ∈ (applyT B t c).ho) (h2 : t.qu[i] ∉ t.ho) (h3 : t.qu[k]'(by omega) ∈ (applyT B t c).qu) : sTog t.qu[i] (t.qu[k]'(by omega)) = true := by
  have hm := may_apply h hc
  have hn := apart_nodup h.ap h.hol
  have e : t.qu = t.qu.take i ++ t.qu[i] :: t.qu.drop (i + 1) := by
    rw [List.getElem_cons_drop, List.take_append_drop]
  have hy : t.qu[k]'(by omega) ∈ t.qu.take i := by
    rw [List.mem_take_iff_getElem]
    exact ⟨k, by omega, rfl⟩
  generalize t.qu[i] = x at *
  generalize t.qu[k]'(by omega) = y at *
  unfold applyT at h1 h3
  split at h1
  · rename_i hk0
    rw [if_pos hk0] at h3
    split at h1
    · exact absurd h1 h2
    · split at h1
      · exact absurd h1 h2
      · exact absurd h1 h2
  · rename_i hk0
    rw [if_neg hk0] at h3
    split at h1
    · rename_i hk1
      rw [if_pos hk1] at h3
      split at h1
      · rename_i i hs
        rw [hs] at h3
        exact pass_less hn (without_sub _ _) (without_sub _ _) e hy h1 h2 h3
      · exact absurd h1 h2
    · rename_i hk1
      rw [if_neg hk1] at h3
      split at h1
      · rename_i hk2
        rw [if_pos hk2] at h3
        split at h1
        · rename_i ha
          rw [if_pos ha] at h3
          have hx : x ∈ t.qu := by rw [e]; simp
          have ha' := ha
          unfold askOk at ha
          simp only [Bool.and_eq_true, Bool.not_eq_true', decide_eq_true_iff] at ha
          refine grant_pass _ _ [] (t.qu.take i) (t.qu.drop (i + 1) ++ [⟨c.by_, ⟨c.lo, c.hi⟩, c.mode⟩]) ?_ ?_ (.inr hy) h1 h3
          · rw [List.append_nil, ← List.append_assoc]
            refine List.nodup_append.2 ⟨hn, by simp, fun u hu v hv => ?_⟩
            rw [List.mem_singleton.1 hv]
            rintro rfl
            refine tou_no ha.2.2.1 _ hu ⟨rfl, s_ov_iff.2 ?_⟩
            have h5 := ha.2.1
            simp [sHoldB, sMayB] at h5
            simp only
            omega
          · show t.qu ++ _ = _
            rw [← List.cons_append, ← List.append_assoc, ← e]
        · exact absurd h1 h2
      · rename_i hk2
        rw [if_neg hk2] at h3
        split at h1
        · rename_i hk3
          rw [if_pos hk3] at h3
          unfold freeT at h1 h3
          split at h1
          · rename_i k hat
            rw [hat] at h3
            exact pass_less hn (List.eraseIdx_sublist _ _) (List.Sublist.refl _) e hy h1 h2 h3
          · rename_i hat
            rw [hat] at h3
            split at h1
            · rename_i k hat2
              simp only [hat2] at h3
              exact pass_less hn (List.Sublist.refl _) (List.eraseIdx_sublist _ _) e hy h1 h2 h3
            · exact absurd h1 h2
        · rename_i hk3
          rw [if_neg hk3] at h3
          split at h1
          · split at h1
            · split at h1
              · exact absurd h1 h2
              · exact absurd h1 h2
            · exact absurd h1 h2
          · rename_i hk4
            rw [if_neg hk4] at h3
            split at h1
            · rename_i hk5
              rw [if_pos hk5] at h3
              split at h1
              · rename_i i hs
                rw [hs] at h3
                simp only at h3
                split at h1
                · rename_i hcl
                  rw [if_pos hcl] at h3
                  exact pass_less hn (without_sub _ _) (without_sub _ _) e hy h1 h2 h3
                · exact absurd h1 h2
              · exact absurd h1 h2
            · exact absurd h1 h2

end Go.Proofs.Ytjknloaolennoaa

/-
  How long a table's rows get: over plain values.
-/
namespace Go.Proofs.Ytjknloaolennoaa
set_option linter.unusedVariables false
set_option linter.unusedSimpArgs false

theorem grantT_len (t : TabM) : (grantT t).ho.length + (grantT t).qu.length = t.ho.length + t.qu.length := by
  have := (grant_perm t.qu t.ho []).length_eq
  rw [List.length_append, List.append_nil, List.length_append] at this
  exact this
theorem leave_len (t : TabM) (i : Nat) : (leaveT t i).ho.length + (leaveT t i).qu.length ≤ t.ho.length + t.qu.length := by
  unfold leaveT
  rw [grantT_len]
  have h1 := (without_sub t.ho (t.sl.getD i default).key).length_le
  have h2 := (without_sub t.qu (t.sl.getD i default).key).length_le
  exact Nat.add_le_add h1 h2
/-- A command makes it one longer at most, and leaves its slots as many. -/
theorem apply_len (B : Int) (t : TabM) (c : CmdM) : (applyT B t c).ho.length + (applyT B t c).qu.length ≤ t.ho.length + t.qu.length + 1 ∧ (applyT B t c).sl.length = t.sl.length := by
  unfold applyT
  split
  · split
    · exact ⟨by omega, rfl⟩
    · split
      · exact ⟨by simp, by simp⟩
      · exact ⟨by omega, rfl⟩
  · split
    · split
      · rename_i i _
        exact ⟨by have := leave_len t i; omega, by unfold leaveT grantT; simp⟩
      · exact ⟨by omega, rfl⟩
    · split
      · split
        · refine ⟨?_, rfl⟩
          rw [grantT_len]
          simp
          omega
        · exact ⟨by omega, rfl⟩
      · split
        · unfold freeT
          split
          · rename_i k h
            refine ⟨?_, rfl⟩
            rw [grantT_len]
            have := (List.eraseIdx_sublist t.ho k).length_le
            simp only
            omega
          · split
            · rename_i k h
              refine ⟨?_, rfl⟩
              rw [grantT_len]
              have := (List.eraseIdx_sublist t.qu k).length_le
              simp only
              omega
            · exact ⟨by omega, rfl⟩
        · split
          · split
            · split
              · exact ⟨by simp, by simp⟩
              · exact ⟨by omega, rfl⟩
            · exact ⟨by omega, rfl⟩
          · split
            · split
              · split
                · rename_i i _ _
                  exact ⟨by have := leave_len t i; omega, by unfold leaveT grantT; simp⟩
                · exact ⟨by omega, rfl⟩
              · exact ⟨by omega, rfl⟩
            · exact ⟨by omega, rfl⟩

end Go.Proofs.Ytjknloaolennoaa
