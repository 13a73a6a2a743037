/-
  Commands in bytes, over plain values: which may be, their bytes, what is read of bytes. It speaks of no program's function.
-/
import Derived.Test.YtjdacpnfgpdjhaaDoorNumMath
namespace Go.Proofs.YtjdacpnfgpdjhaaDoor
set_option linter.unusedVariables false
set_option linter.unusedSimpArgs false

structure CmdM where
  kind : Int
  by_ : Int
  serial : Int
  dead : Int
  was : Int
  lo : Int
  hi : Int
  mode : Int
deriving DecidableEq

def cKey (k : Int) : Bool := decide (16 ≤ k) && decide (k ≤ 1099511627776)
def cOf (k : Int) : Int := if cKey k = true then k % 16 else -1
theorem cKey_iff {k : Int} : cKey k = true ↔ 16 ≤ k ∧ k ≤ 1099511627776 := by simp [cKey]
def cSpan (lo hi : Int) : Prop := 0 ≤ lo ∧ lo ≤ hi ∧ hi < 64
instance (lo hi : Int) : Decidable (cSpan lo hi) := inferInstanceAs (Decidable (_ ∧ _ ∧ _))
/-- What its kind asks of a command. -/
def cKind (c : CmdM) : Prop :=
  ((c.kind = 0 ∨ c.kind = 1) ∧ c.dead = 0 ∧ c.was = 0 ∧ c.lo = 0 ∧ c.hi = 0 ∧ c.mode = 0) ∨
  (c.kind = 2 ∧ c.dead = 0 ∧ c.was = 0 ∧ cSpan c.lo c.hi ∧ (c.mode = 1 ∨ c.mode = 2)) ∨
  (c.kind = 3 ∧ c.dead = 0 ∧ c.was = 0 ∧ cSpan c.lo c.hi ∧ c.mode = 0) ∨
  (c.kind = 4 ∧ cKey c.dead = true ∧ (c.was = 0 ∨ cKey c.was = true) ∧ c.lo = 0 ∧ c.hi = 0 ∧ c.mode = 0) ∨
  (c.kind = 5 ∧ cKey c.dead = true ∧ c.was = 0 ∧ c.lo = 0 ∧ c.hi = 0 ∧ c.mode = 0)
instance (c : CmdM) : Decidable (cKind c) := inferInstanceAs (Decidable (_ ∨ _ ∨ _ ∨ _ ∨ _))
def CmdOk (c : CmdM) : Prop := cKey c.by_ = true ∧ (1 ≤ c.serial ∧ c.serial ≤ 2147483648) ∧ cKind c
instance (c : CmdM) : Decidable (CmdOk c) := inferInstanceAs (Decidable (_ ∧ _ ∧ _))
def cMay (c : CmdM) : Bool := decide (CmdOk c)
theorem cMay_iff {c : CmdM} : cMay c = true ↔ CmdOk c := by simp [cMay]
theorem cKind_bd {c : CmdM} (h : cKind c) : 0 ≤ c.kind ∧ c.kind ≤ 5 := by
  rcases h with ⟨h | h, _⟩ | ⟨h, _⟩ | ⟨h, _⟩ | ⟨h, _⟩ | ⟨h, _⟩ <;> omega

/-- Its bytes. -/
def cTail (c : CmdM) : List Int :=
  if c.kind = 2 then [c.lo, c.hi, c.mode] else if c.kind = 3 then [c.lo, c.hi] else if c.kind = 4 then enc 6 c.dead ++ enc 6 c.was else if c.kind = 5 then enc 6 c.dead else []
def cEnc (c : CmdM) : List Int := [c.kind] ++ (enc 6 c.by_ ++ (enc 4 c.serial ++ cTail c))
def cLen (k : Int) : Nat := if k = 2 then 14 else if k = 3 then 13 else if k = 4 then 23 else if k = 5 then 17 else 11
theorem cTail_length (c : CmdM) : (cTail c).length + 11 = cLen c.kind := by
  unfold cTail cLen
  split
  · rfl
  · split
    · rfl
    · split
      · rw [List.length_append, enc_length, enc_length]
      · split
        · rw [enc_length]
        · rfl
theorem cEnc_length (c : CmdM) : (cEnc c).length = cLen c.kind := by
  rw [← cTail_length]
  unfold cEnc
  rw [List.length_append, List.length_append, List.length_append, enc_length, enc_length, List.length_singleton]
  omega
theorem cLen_bd (k : Int) : 11 ≤ cLen k ∧ cLen k ≤ 23 := by
  unfold cLen
  repeat' split
  all_goals omega
theorem cEnc_bytes {c : CmdM} (h : cMay c = true) : IsBytes (cEnc c) := by
  obtain ⟨_, _, hk⟩ := cMay_iff.1 h
  have hb := cKind_bd hk
  intro b hx
  unfold cEnc at hx
  rcases List.mem_append.1 hx with hx | hx
  · rw [List.mem_singleton.1 hx]; omega
  rcases List.mem_append.1 hx with hx | hx
  · exact enc_bytes _ _ b hx
  rcases List.mem_append.1 hx with hx | hx
  · exact enc_bytes _ _ b hx
  unfold cTail at hx
  rcases hk with ⟨h1 | h1, _⟩ | ⟨h1, _, _, ⟨s1, s2, s3⟩, hm⟩ | ⟨h1, _, _, ⟨s1, s2, s3⟩, hm⟩ | ⟨h1, _⟩ | ⟨h1, _⟩
  · simp [h1] at hx
  · simp [h1] at hx
  · rw [if_pos h1] at hx
    simp at hx
    rcases hx with rfl | rfl | rfl <;> omega
  · rw [if_neg (by omega), if_pos h1] at hx
    simp at hx
    rcases hx with rfl | rfl <;> omega
  · rw [if_neg (by omega), if_neg (by omega), if_pos h1] at hx
    rcases List.mem_append.1 hx with hx | hx
    · exact enc_bytes _ _ b hx
    · exact enc_bytes _ _ b hx
  · rw [if_neg (by omega), if_neg (by omega), if_neg (by omega), if_pos h1] at hx
    exact enc_bytes _ _ b hx

/-! ### What is read -/
def cKindOf (l : List Int) : Int := l.getD 0 0
def cCand (l : List Int) : CmdM :=
  { kind := cKindOf l, by_ := dec ((l.drop 1).take 6), serial := dec ((l.drop 7).take 4),
    dead := if cKindOf l = 4 ∨ cKindOf l = 5 then dec ((l.drop 11).take 6) else 0,
    was := if cKindOf l = 4 then dec ((l.drop 17).take 6) else 0,
    lo := if cKindOf l = 2 ∨ cKindOf l = 3 then l.getD 11 0 else 0,
    hi := if cKindOf l = 2 ∨ cKindOf l = 3 then l.getD 12 0 else 0,
    mode := if cKindOf l = 2 then l.getD 13 0 else 0 }
def cRd (l : List Int) : Bool := decide (l.length = cLen (cKindOf l)) && cMay (cCand l)
theorem cRd_iff {l : List Int} : cRd l = true ↔ l.length = cLen (cKindOf l) ∧ cMay (cCand l) = true := by simp [cRd]

theorem split_11 {l : List Int} (h : 11 ≤ l.length) : l = [l.getD 0 0] ++ ((l.drop 1).take 6 ++ ((l.drop 7).take 4 ++ l.drop 11)) := by
  cases l with
  | nil => simp at h
  | cons a t =>
    have e1 : t = t.take 6 ++ t.drop 6 := (List.take_append_drop 6 t).symm
    have e2 : t.drop 6 = (t.drop 6).take 4 ++ t.drop 10 := by
      have := (List.take_append_drop 4 (t.drop 6)).symm
      rwa [List.drop_drop] at this
    have e3 : (a :: t).drop 1 = t := rfl
    have e4 : (a :: t).drop 7 = t.drop 6 := rfl
    have e5 : (a :: t).drop 11 = t.drop 10 := rfl
    rw [e3, e4, e5, ← e2, ← e1]
    rfl
/-- The parts of a command's bytes. -/
theorem cEnc_parts (c : CmdM) : cKindOf (cEnc c) = c.kind ∧ ((cEnc c).drop 1).take 6 = enc 6 c.by_ ∧ ((cEnc c).drop 7).take 4 = enc 4 c.serial ∧ (cEnc c).drop 11 = cTail c := by
  have l6 := enc_length 6 c.by_
  have l4 := enc_length 4 c.serial
  unfold cEnc
  generalize enc 6 c.by_ = A at *
  generalize enc 4 c.serial = B at *
  refine ⟨rfl, ?_, ?_, ?_⟩
  · show (A ++ (B ++ cTail c)).take 6 = A
    exact List.take_left' l6
  · show ((A ++ (B ++ cTail c)).drop 6).take 4 = B
    rw [List.drop_left' l6]
    exact List.take_left' l4
  · show (A ++ (B ++ cTail c)).drop 10 = cTail c
    rw [show 10 = 6 + 4 from rfl, ← List.drop_drop, List.drop_left' l6]
    exact List.drop_left' l4
theorem drop_get (l : List Int) (k j : Nat) : l.getD (k + j) 0 = (l.drop k).getD j 0 := by
  rw [List.getD, List.getD, List.getElem?_drop]
theorem cKey_pow {k : Int} (h : cKey k = true) : 0 ≤ k ∧ k < 256 ^ 6 := by
  have := cKey_iff.1 h
  omega
/-- Its bytes are read as it. -/
theorem cand_enc {c : CmdM} (h : cMay c = true) : cCand (cEnc c) = c ∧ cRd (cEnc c) = true := by
  obtain ⟨hb, hs, hk⟩ := cMay_iff.1 h
  obtain ⟨p0, p1, p2, p3⟩ := cEnc_parts c
  have e1 : dec (enc 6 c.by_) = c.by_ := dec_enc 6 _ (cKey_pow hb).1 (cKey_pow hb).2
  have e2 : dec (enc 4 c.serial) = c.serial := dec_enc 4 _ (by omega) (by omega)
  have key : cCand (cEnc c) = c := by
    unfold cCand
    rw [p0, p1, p2, e1, e2, drop_get _ 11 0, drop_get _ 11 1, drop_get _ 11 2, show (cEnc c).drop 17 = ((cEnc c).drop 11).drop 6 by rw [List.drop_drop], p3]
    obtain ⟨kind, by_, serial, dead, was, lo, hi, mode⟩ := c
    simp only at hk ⊢
    unfold cTail
    rcases hk with ⟨h1 | h1, d1, d2, d3, d4, d5⟩ | ⟨h1, d1, d2, d3, d4⟩ | ⟨h1, d1, d2, d3, d4⟩ | ⟨h1, d1, d2, d3, d4, d5⟩ | ⟨h1, d1, d2, d3, d4, d5⟩
    · simp only at h1 d1 d2 d3 d4 d5; subst h1 d1 d2 d3 d4 d5; rfl
    · simp only at h1 d1 d2 d3 d4 d5; subst h1 d1 d2 d3 d4 d5; rfl
    · simp only at h1 d1 d2; subst h1 d1 d2; rfl
    · simp only at h1 d1 d2 d4; subst h1 d1 d2 d4; rfl
    · simp only at h1 d1 d2 d3 d4 d5
      subst h1 d3 d4 d5
      have f1 : dec (enc 6 dead) = dead := dec_enc 6 _ (cKey_pow d1).1 (cKey_pow d1).2
      have f2 : dec (enc 6 was) = was := by
        rcases d2 with rfl | d2
        · exact dec_enc 6 _ (by omega) (by omega)
        · exact dec_enc 6 _ (cKey_pow d2).1 (cKey_pow d2).2
      simp only [show ¬ ((4 : Int) = 2) from by omega, show ¬ ((4 : Int) = 3) from by omega, if_false, if_true, or_self, or_false, false_or, true_or]
      rw [List.take_left' (enc_length 6 dead), List.drop_left' (enc_length 6 dead), List.take_of_length_le (by rw [enc_length]; omega), f1, f2]
    · simp only at h1 d1 d2 d3 d4 d5
      subst h1 d2 d3 d4 d5
      have f1 : dec (enc 6 dead) = dead := dec_enc 6 _ (cKey_pow d1).1 (cKey_pow d1).2
      simp only [show ¬ ((5 : Int) = 2) from by omega, show ¬ ((5 : Int) = 3) from by omega, show ¬ ((5 : Int) = 4) from by omega, if_false, if_true, or_self, or_true, or_false, false_or]
      rw [List.take_of_length_le (by rw [enc_length]; omega), f1]
  refine ⟨key, cRd_iff.2 ⟨?_, by rw [key]; exact h⟩⟩
  rw [p0, cEnc_length]
/-- What is read has these bytes. -/
theorem enc_cand {l : List Int} (hl : IsBytes l) (h : cRd l = true) : cEnc (cCand l) = l := by
  obtain ⟨hlen, hm⟩ := cRd_iff.1 h
  obtain ⟨hb, hs, hk⟩ := cMay_iff.1 hm
  have hbd := cLen_bd (cKindOf l)
  have h11 : 11 ≤ l.length := by omega
  have take_b : ∀ a n, IsBytes ((l.drop a).take n) := fun a n b hx => hl b (List.mem_of_mem_drop (List.mem_of_mem_take hx))
  have e6 : enc 6 (dec ((l.drop 1).take 6)) = (l.drop 1).take 6 := by
    have := enc_dec (take_b 1 6)
    rwa [List.length_take, List.length_drop, show min 6 (l.length - 1) = 6 by omega] at this
  have e4 : enc 4 (dec ((l.drop 7).take 4)) = (l.drop 7).take 4 := by
    have := enc_dec (take_b 7 4)
    rwa [List.length_take, List.length_drop, show min 4 (l.length - 7) = 4 by omega] at this
  have et : cTail (cCand l) = l.drop 11 := by
    have hk0 : cKind (cCand l) := hk
    have hkk : (cCand l).kind = cKindOf l := rfl
    have hcases : cKindOf l = 0 ∨ cKindOf l = 1 ∨ cKindOf l = 2 ∨ cKindOf l = 3 ∨ cKindOf l = 4 ∨ cKindOf l = 5 := by
      have := cKind_bd hk0
      rw [hkk] at this
      omega
    have three : ∀ m : List Int, m.length = 3 → m = [m.getD 0 0, m.getD 1 0, m.getD 2 0] := fun m hm => by
      match m, hm with
      | [a, b, c], _ => rfl
    have two : ∀ m : List Int, m.length = 2 → m = [m.getD 0 0, m.getD 1 0] := fun m hm => by
      match m, hm with
      | [a, b], _ => rfl
    unfold cTail cCand
    simp only
    rcases hcases with hc | hc | hc | hc | hc | hc
    · rw [hc] at hlen ⊢
      have : l.length = 11 := hlen
      rw [List.drop_of_length_le (by omega)]
      rfl
    · rw [hc] at hlen ⊢
      have : l.length = 11 := hlen
      rw [List.drop_of_length_le (by omega)]
      rfl
    · rw [hc] at hlen ⊢
      have h14 : l.length = 14 := hlen
      have := three (l.drop 11) (by rw [List.length_drop]; omega)
      rw [← drop_get, ← drop_get, ← drop_get] at this
      exact this.symm
    · rw [hc] at hlen ⊢
      have h13 : l.length = 13 := hlen
      have := two (l.drop 11) (by rw [List.length_drop]; omega)
      rw [← drop_get, ← drop_get] at this
      exact this.symm
    · rw [hc] at hlen ⊢
      have h23 : l.length = 23 := hlen
      have a1 := enc_dec (take_b 11 6)
      rw [List.length_take, List.length_drop, show min 6 (l.length - 11) = 6 by omega] at a1
      have a2 := enc_dec (take_b 17 6)
      rw [List.length_take, List.length_drop, show min 6 (l.length - 17) = 6 by omega] at a2
      show enc 6 (dec ((l.drop 11).take 6)) ++ enc 6 (dec ((l.drop 17).take 6)) = _
      rw [a1, a2, List.take_of_length_le (l := l.drop 17) (by rw [List.length_drop]; omega), show l.drop 17 = (l.drop 11).drop 6 by rw [List.drop_drop]]
      exact List.take_append_drop _ _
    · rw [hc] at hlen ⊢
      have h17 : l.length = 17 := hlen
      have a1 := enc_dec (take_b 11 6)
      rw [List.length_take, List.length_drop, show min 6 (l.length - 11) = 6 by omega] at a1
      show enc 6 (dec ((l.drop 11).take 6)) = _
      rw [a1, List.take_of_length_le (by rw [List.length_drop]; omega)]
  show [cKindOf l] ++ (enc 6 (dec ((l.drop 1).take 6)) ++ (enc 4 (dec ((l.drop 7).take 4)) ++ cTail (cCand l))) = l
  rw [e6, e4, et]
  exact (split_11 h11).symm
theorem cEnc_inj {c d : CmdM} (hc : cMay c = true) (hd : cMay d = true) (h : cEnc c = cEnc d) : c = d := by
  rw [← (cand_enc hc).1, ← (cand_enc hd).1, h]
/-- No beginning of a command's bytes is a command. -/
theorem cRd_take {c : CmdM} (h : cMay c = true) {n : Nat} (hn : n < (cEnc c).length) : cRd ((cEnc c).take n) = false := by
  rcases hr : cRd ((cEnc c).take n) with _ | _
  · rfl
  · exfalso
    obtain ⟨hlen, _⟩ := cRd_iff.1 hr
    rw [List.length_take, Nat.min_eq_left (by omega)] at hlen
    have hbd := cLen_bd (cKindOf ((cEnc c).take n))
    have hk : cKindOf ((cEnc c).take n) = c.kind := by
      rw [← (cEnc_parts c).1]
      unfold cKindOf
      rw [List.getD, List.getElem?_take, if_pos (by omega)]
      rfl
    rw [hk] at hlen
    rw [cEnc_length] at hn
    omega
theorem cRd_short {l : List Int} (h : l.length < 11) : cRd l = false := by
  rcases hr : cRd l with _ | _
  · rfl
  · have := (cRd_iff.1 hr).1
    have := cLen_bd (cKindOf l)
    omega

/-- The greatest serial of those by somebody. -/
def cLast (b : Int) (l : List CmdM) : Int := l.foldl (fun n c => if c.by_ = b then max n c.serial else n) 0
theorem cLast_take {b : Int} {l : List CmdM} {k : Nat} (h : k < l.length) : cLast b (l.take (k + 1)) = if l[k].by_ = b then max (cLast b (l.take k)) l[k].serial else cLast b (l.take k) := by
  unfold cLast
  rw [List.take_succ_eq_append_getElem h, List.foldl_append]
  rfl

/-- A field of another kind. -/
theorem other_dead {c : CmdM} {n : Int} (hk : c.kind = 2 ∨ c.kind = 3 ∨ c.kind = 0 ∨ c.kind = 1) (hn : n ≠ 0) : cMay { c with dead := n } = false := by
  rcases h : cMay { c with dead := n } with _ | _
  · rfl
  · exfalso
    obtain ⟨_, _, hq⟩ := cMay_iff.1 h
    rcases hq with ⟨_, d1, _⟩ | ⟨_, d1, _⟩ | ⟨_, d1, _⟩ | ⟨h1, _⟩ | ⟨h1, _⟩
    · exact hn d1
    · exact hn d1
    · exact hn d1
    · have : c.kind = 4 := h1
      omega
    · have : c.kind = 5 := h1
      omega
theorem other_hi {c : CmdM} {n : Int} (hc : cMay c = true) (hk : ¬ (c.kind = 2 ∨ c.kind = 3 ∨ c.kind = 0 ∨ c.kind = 1)) (hn : n ≠ 0) : cMay { c with hi := n } = false := by
  rcases h : cMay { c with hi := n } with _ | _
  · rfl
  · exfalso
    obtain ⟨_, _, hq⟩ := cMay_iff.1 h
    rcases hq with ⟨h1, _⟩ | ⟨h1, _⟩ | ⟨h1, _⟩ | ⟨_, _, _, _, d1, _⟩ | ⟨_, _, _, _, d1, _⟩
    · have h1 : c.kind = 0 ∨ c.kind = 1 := h1
      omega
    · have : c.kind = 2 := h1
      omega
    · have : c.kind = 3 := h1
      omega
    · exact hn d1
    · exact hn d1
theorem other_kind (c : CmdM) : cMay { c with kind := 6 } = false := by
  rcases h : cMay { c with kind := 6 } with _ | _
  · rfl
  · exfalso
    obtain ⟨_, _, hq⟩ := cMay_iff.1 h
    have := cKind_bd hq
    simp only at this
    omega

end Go.Proofs.YtjdacpnfgpdjhaaDoor
