/-
  Devices over plain values: when one may be; what an act, a crash, a start come to; what keeps it one that may be. It speaks of no program's function.
-/
namespace Go.Proofs.YtjdacpnfgpdjhaaDoor
set_option linter.unusedVariables false
set_option linter.unusedSimpArgs false

abbrev Cel := Int × ByteArray
structure Dev where
  S : List ByteArray
  C : List (List Cel)
  K : List Int
  n : Int
  F : List Int
structure ActM where
  k : Int
  s : Int
  b : ByteArray
  key : Int

/-- A key that was given. -/
def Given (nk : Nat) (n : Int) (key : Int) : Prop := 16 ≤ key ∧ key / 16 < n ∧ key % 16 < (nk : Int)
instance (nk : Nat) (n key : Int) : Decidable (Given nk n key) := inferInstanceAs (Decidable (_ ∧ _ ∧ _))
structure CacheOk (l : List Cel) (ns : Nat) : Prop where
  a : ∀ c ∈ l, 0 ≤ c.1 ∧ c.1 < (ns : Int) ∧ c.2.size ≤ 512
  d : (l.map Prod.fst).Nodup
/-- A device may be. -/
structure MayD (D : Dev) : Prop where
  s1 : 1 ≤ D.S.length
  k1 : 1 ≤ D.K.length
  k16 : D.K.length ≤ 16
  ck : D.C.length = D.K.length
  n1 : 1 ≤ D.n
  n2 : D.n ≤ 68719476736
  ss : ∀ s ∈ D.S, s.size ≤ 512
  cs : ∀ l ∈ D.C, CacheOk l D.S.length
  ks : ∀ (i : Nat) (x : Int), D.K[i]? = some x → x = 0 ∨ (Given D.K.length D.n x ∧ x % 16 = (i : Int))
  fs : ∀ x ∈ D.F, Given D.K.length D.n x
  fr : D.F.Pairwise (· < ·)

theorem given_more {nk : Nat} {n m key : Int} (h : Given nk n key) (hm : n ≤ m) : Given nk m key := ⟨h.1, by have := h.2.1; omega, h.2.2⟩

/-- A node's cache; where a sector stands in it. -/
def cacheOf (D : Dev) (i : Nat) : List Cel := D.C.getD i []
def placeO (l : List Cel) (s : Int) : Option Nat := l.findIdx? (fun c => c.1 == s)
def keyOf (D : Dev) (i : Nat) : Int := D.K.getD i 0
def fencedK (D : Dev) (x : Int) : Bool := decide (x < 1) || decide (x ∈ D.F)
def setCache (D : Dev) (i : Nat) (l : List Cel) : Dev := { D with C := D.C.set i l }
def key6 (x : Int) : ByteArray := ⟨((List.range 6).map fun j => UInt8.ofNat ((x / (256 ^ j : Nat)) % 256).toNat).toArray⟩
theorem key6_size (x : Int) : (key6 x).size = 6 := by simp [key6, ByteArray.size]

/-- A key put among those that are fenced. -/
def fenceGo (key : Int) : List Int → Bool → List Int
  | [], done => if done then [] else [key]
  | x :: xs, done => if decide (key < x) && !(done || x == key) then key :: x :: fenceGo key xs true else x :: fenceGo key xs (done || x == key)
def fenceD (l : List Int) (key : Int) : List Int := fenceGo key l false

def readD (D : Dev) (i : Nat) (s : Int) : ByteArray :=
  match placeO (cacheOf D i) s with
  | some k => ((cacheOf D i).getD k (0, ⟨#[]⟩)).2
  | none => D.S.getD s.toNat ⟨#[]⟩
def forceC (l : List Cel) (s : Int) : List Cel := match placeO l s with | some k => l.eraseIdx k | none => l
def putC (l : List Cel) (s : Int) (b : ByteArray) : List Cel := match placeO l s with | some k => l.set k (s, b) | none => l ++ [(s, b)]
def forceD (D : Dev) (i : Nat) (s : Int) (b : ByteArray) : Dev := { D with S := D.S.set s.toNat b, C := D.C.set i (forceC (cacheOf D i) s) }
def putD (D : Dev) (i : Nat) (s : Int) (b : ByteArray) : Dev := setCache D i (putC (cacheOf D i) s b)
def flushD (D : Dev) (i : Nat) : Dev := match cacheOf D i with
  | [] => D
  | c :: r => { D with S := D.S.set c.1.toNat c.2, C := D.C.set i r }
def fencesD (D : Dev) (key : Int) : Dev := { D with F := fenceD D.F key }
def registerD (D : Dev) (i : Nat) : Dev := { D with K := D.K.set i (16 * D.n + (i : Int)), n := D.n + 1, C := D.C.set i [] }
def startD (D : Dev) (i : Nat) : Dev := { D with C := D.C.set i [], K := D.K.set i 0 }
/-- What is kept of a crash. -/
def crashS : List ByteArray → List Cel → Nat → List ByteArray
  | S, [], _ => S
  | S, c :: r, kept => crashS (if kept % 2 = 1 then S.set c.1.toNat c.2 else S) r (kept / 2)
def crashD (D : Dev) (i : Nat) (kept : Nat) : Dev := { D with S := if fencedK D (keyOf D i) then D.S else crashS D.S (cacheOf D i) kept, C := D.C.set i [] }

/-- What is wrong with an act of a node (of a device that may be). -/
def actE (D : Dev) (i : Nat) (a : ActM) : Int :=
  if a.k < 1 ∨ 6 < a.k then 2
  else if ((a.k = 2 ∨ a.k = 3) ∧ 512 < a.b.size) ∨ (a.k = 5 ∧ ¬ Given D.K.length D.n a.key) ∨ (a.k = 6 ∧ 68719476736 ≤ D.n) then 2
  else if a.k ≠ 6 ∧ fencedK D (keyOf D i) = true then 61
  else if (a.k = 1 ∨ a.k = 2 ∨ a.k = 3) ∧ ¬ (0 ≤ a.s ∧ a.s < (D.S.length : Int)) then 60
  else 0
/-- The device behind it, and what comes of it. -/
def actD (D : Dev) (i : Nat) (a : ActM) : Dev :=
  if actE D i a ≠ 0 then D
  else if a.k = 2 then forceD D i a.s a.b
  else if a.k = 3 then putD D i a.s a.b
  else if a.k = 4 then flushD D i
  else if a.k = 5 then fencesD D a.key
  else if a.k = 6 then registerD D i
  else D
def actS (D : Dev) (i : Nat) (a : ActM) : ByteArray :=
  if actE D i a ≠ 0 then ⟨#[]⟩
  else if a.k = 1 then readD D i a.s
  else if a.k = 6 then key6 (16 * D.n + (i : Int))
  else ⟨#[]⟩

/-! ### What keeps a device one that may be -/
theorem place_some {l : List Cel} {s : Int} {k : Nat} (h : placeO l s = some k) : ∃ hk : k < l.length, (l[k]).1 = s := by
  unfold placeO at h
  rw [List.findIdx?_eq_some_iff_getElem] at h
  obtain ⟨h1, h2, _⟩ := h
  exact ⟨h1, by simpa using h2⟩
theorem place_none {l : List Cel} {s : Int} (h : placeO l s = none) : ∀ c ∈ l, c.1 ≠ s := by
  unfold placeO at h
  rw [List.findIdx?_eq_none_iff] at h
  intro c hc e
  have := h c hc
  simp [e] at this
theorem CacheOk.nil (ns : Nat) : CacheOk [] ns := ⟨by simp, by simp⟩
theorem CacheOk.sub {l m : List Cel} {ns : Nat} (h : CacheOk l ns) (hs : m.Sublist l) : CacheOk m ns :=
  ⟨fun c hc => h.a c (hs.subset hc), h.d.sublist (hs.map _)⟩
theorem CacheOk.force {l : List Cel} {ns : Nat} (h : CacheOk l ns) (s : Int) : CacheOk (forceC l s) ns := by
  unfold forceC
  split
  · exact h.sub (List.eraseIdx_sublist _ _)
  · exact h
theorem map_set_fst {l : List Cel} {k : Nat} {s : Int} {b : ByteArray} (hk : k < l.length) (e : (l[k]).1 = s) : (l.set k (s, b)).map Prod.fst = l.map Prod.fst := by
  apply List.ext_getElem
  · simp
  · intro j h1 h2
    simp only [List.getElem_map, List.getElem_set]
    split
    · rename_i e2; subst e2; exact e.symm
    · rfl
theorem CacheOk.put {l : List Cel} {ns : Nat} (h : CacheOk l ns) {s : Int} {b : ByteArray} (h0 : 0 ≤ s) (h1 : s < (ns : Int)) (hb : b.size ≤ 512) : CacheOk (putC l s b) ns := by
  unfold putC
  split
  · rename_i k hk
    obtain ⟨hl, e⟩ := place_some hk
    refine ⟨fun c hc => ?_, by rw [map_set_fst hl e]; exact h.d⟩
    rcases List.mem_or_eq_of_mem_set hc with h2 | h2
    · exact h.a c h2
    · subst h2; exact ⟨h0, h1, hb⟩
  · rename_i hn
    have hno := place_none hn
    refine ⟨fun c hc => ?_, ?_⟩
    · rcases List.mem_append.1 hc with h2 | h2
      · exact h.a c h2
      · rw [List.mem_singleton.1 h2]; exact ⟨h0, h1, hb⟩
    · rw [List.map_append, List.nodup_append]
      refine ⟨h.d, by simp, ?_⟩
      intro x hx y hy
      obtain ⟨c, hc, rfl⟩ := List.mem_map.1 hx
      simp at hy
      subst hy
      exact hno c hc
theorem cache_ok {D : Dev} (h : MayD D) (i : Nat) : CacheOk (cacheOf D i) D.S.length := by
  unfold cacheOf
  rw [List.getD]
  cases e : D.C[i]? with
  | none => exact CacheOk.nil _
  | some l => exact h.cs l (List.mem_of_getElem? e)
/-- With another cache, and other sectors as many. -/
theorem MayD.cache {D : Dev} (h : MayD D) (i : Nat) {l : List Cel} {S : List ByteArray} (hS : S.length = D.S.length) (hs : ∀ s ∈ S, s.size ≤ 512) (hl : CacheOk l D.S.length) : MayD { D with S := S, C := D.C.set i l } where
  s1 := by show 1 ≤ S.length; rw [hS]; exact h.s1
  k1 := h.k1
  k16 := h.k16
  ck := by show (D.C.set i l).length = _; rw [List.length_set]; exact h.ck
  n1 := h.n1
  n2 := h.n2
  ss := hs
  cs := fun m hm => by
    show CacheOk m S.length
    rw [hS]
    rcases List.mem_or_eq_of_mem_set hm with h2 | rfl
    · exact h.cs m h2
    · exact hl
  ks := h.ks
  fs := h.fs
  fr := h.fr
theorem set_sizes {S : List ByteArray} {k : Nat} {b : ByteArray} (h : ∀ s ∈ S, s.size ≤ 512) (hb : b.size ≤ 512) : ∀ s ∈ S.set k b, s.size ≤ 512 := fun s hs => by
  rcases List.mem_or_eq_of_mem_set hs with h2 | rfl
  · exact h s h2
  · exact hb
theorem may_force {D : Dev} (h : MayD D) (i : Nat) {s : Int} {b : ByteArray} (hb : b.size ≤ 512) : MayD (forceD D i s b) :=
  h.cache i (by simp) (set_sizes h.ss hb) ((cache_ok h i).force s)
theorem may_put {D : Dev} (h : MayD D) (i : Nat) {s : Int} {b : ByteArray} (h0 : 0 ≤ s) (h1 : s < (D.S.length : Int)) (hb : b.size ≤ 512) : MayD (putD D i s b) :=
  h.cache i rfl h.ss ((cache_ok h i).put h0 h1 hb)
theorem may_flush {D : Dev} (h : MayD D) (i : Nat) : MayD (flushD D i) := by
  have hc := cache_ok h i
  unfold flushD
  split
  · exact h
  · rename_i c r e
    rw [e] at hc
    exact h.cache i (by simp) (set_sizes h.ss (hc.a c (by simp)).2.2) (hc.sub (List.sublist_cons_self _ _))
theorem crashS_length (S : List ByteArray) (l : List Cel) (kept : Nat) : (crashS S l kept).length = S.length := by
  induction l generalizing S kept with
  | nil => rfl
  | cons c r ih => rw [crashS, ih]; split <;> simp
theorem crashS_sizes {S : List ByteArray} {l : List Cel} (kept : Nat) (h : ∀ s ∈ S, s.size ≤ 512) (hl : ∀ c ∈ l, c.2.size ≤ 512) : ∀ s ∈ crashS S l kept, s.size ≤ 512 := by
  induction l generalizing S kept with
  | nil => exact h
  | cons c r ih =>
    rw [crashS]
    refine ih _ ?_ (fun x hx => hl x (by simp [hx]))
    split
    · exact set_sizes h (hl c (by simp))
    · exact h
theorem may_crash {D : Dev} (h : MayD D) (i : Nat) (kept : Nat) : MayD (crashD D i kept) := by
  unfold crashD
  refine h.cache i ?_ ?_ (CacheOk.nil _)
  · split
    · rfl
    · exact crashS_length _ _ _
  · split
    · exact h.ss
    · exact crashS_sizes _ h.ss (fun c hc => ((cache_ok h i).a c hc).2.2)
theorem may_start {D : Dev} (h : MayD D) (i : Nat) : MayD (startD D i) where
  s1 := h.s1
  k1 := by show 1 ≤ (D.K.set i 0).length; rw [List.length_set]; exact h.k1
  k16 := by show (D.K.set i 0).length ≤ 16; rw [List.length_set]; exact h.k16
  ck := by show (D.C.set i []).length = (D.K.set i 0).length; rw [List.length_set, List.length_set]; exact h.ck
  n1 := h.n1
  n2 := h.n2
  ss := h.ss
  cs := (h.cache i rfl h.ss (CacheOk.nil _)).cs
  ks := fun j x hx => by
    show x = 0 ∨ (Given (D.K.set i 0).length D.n x ∧ _)
    rw [List.length_set]
    have hx' : (D.K.set i 0)[j]? = some x := hx
    rw [List.getElem?_set] at hx'
    split at hx'
    · split at hx'
      · left; simpa using hx'.symm
      · cases hx'
    · exact h.ks j x hx'
  fs := fun x hx => by show Given (D.K.set i 0).length D.n x; rw [List.length_set]; exact h.fs x hx
  fr := h.fr
theorem may_register {D : Dev} (h : MayD D) {i : Nat} (hi : i < D.K.length) (hn : D.n < 68719476736) : MayD (registerD D i) where
  s1 := h.s1
  k1 := by show 1 ≤ (D.K.set i _).length; rw [List.length_set]; exact h.k1
  k16 := by show (D.K.set i _).length ≤ 16; rw [List.length_set]; exact h.k16
  ck := by show (D.C.set i []).length = (D.K.set i _).length; rw [List.length_set, List.length_set]; exact h.ck
  n1 := by show 1 ≤ D.n + 1; have := h.n1; omega
  n2 := by show D.n + 1 ≤ _; omega
  ss := h.ss
  cs := (h.cache i rfl h.ss (CacheOk.nil _)).cs
  ks := fun j x hx => by
    show x = 0 ∨ (Given (D.K.set i _).length (D.n + 1) x ∧ _)
    rw [List.length_set]
    have hx' : (D.K.set i (16 * D.n + (i : Int)))[j]? = some x := hx
    have h16 := h.k16
    have hn1 := h.n1
    rw [List.getElem?_set] at hx'
    split at hx'
    · rename_i e
      subst e
      right
      injection hx' with hx'
      subst hx'
      refine ⟨⟨by omega, by omega, by omega⟩, by omega⟩
    · rcases h.ks j x hx' with h0 | ⟨h1, h2⟩
      · exact .inl h0
      · exact .inr ⟨given_more h1 (by omega), h2⟩
  fs := fun x hx => by show Given (D.K.set i _).length (D.n + 1) x; rw [List.length_set]; exact given_more (h.fs x hx) (by omega)
  fr := h.fr

/-! ### Keys that are fenced -/
theorem fenceGo_mem (key : Int) (l : List Int) (done : Bool) (x : Int) : x ∈ fenceGo key l done ↔ x ∈ l ∨ (x = key ∧ done = false) := by
  induction l generalizing done with
  | nil => cases done <;> simp [fenceGo]
  | cons y ys ih =>
    rw [fenceGo]
    split
    · rename_i h
      simp only [Bool.and_eq_true, decide_eq_true_eq, Bool.not_eq_true', Bool.or_eq_false_iff] at h
      obtain ⟨_, hd, hne⟩ := h
      subst hd
      simp only [List.mem_cons, ih]
      constructor
      · rintro (h | h | h | ⟨_, h⟩)
        · exact .inr ⟨h, trivial⟩
        · exact .inl (.inl h)
        · exact .inl (.inr h)
        · cases h
      · rintro ((h | h) | ⟨h, _⟩)
        · exact .inr (.inl h)
        · exact .inr (.inr (.inl h))
        · exact .inl h
    · simp only [List.mem_cons, ih, Bool.or_eq_false_iff]
      constructor
      · rintro (h | h | ⟨h1, h2, h3⟩)
        · exact .inl (.inl h)
        · exact .inl (.inr h)
        · exact .inr ⟨h1, h2⟩
      · rintro ((h | h) | ⟨h1, h2⟩)
        · exact .inl h
        · exact .inr (.inl h)
        · by_cases e : y = key
          · exact .inl (by rw [h1, e])
          · exact .inr (.inr ⟨h1, h2, by simpa using e⟩)
theorem fenceD_mem {l : List Int} {key x : Int} : x ∈ fenceD l key ↔ x ∈ l ∨ x = key := by
  unfold fenceD
  rw [fenceGo_mem]
  simp
theorem fenceGo_rising (key : Int) (l : List Int) (done : Bool) (h : l.Pairwise (· < ·)) (hd : done = true → ∀ x ∈ l, key < x) : (fenceGo key l done).Pairwise (· < ·) := by
  induction l generalizing done with
  | nil => cases done <;> simp [fenceGo]
  | cons y ys ih =>
    rw [List.pairwise_cons] at h
    rw [fenceGo]
    split
    · rename_i hc
      simp only [Bool.and_eq_true, decide_eq_true_eq, Bool.not_eq_true', Bool.or_eq_false_iff] at hc
      obtain ⟨hlt, hdn, hne⟩ := hc
      have hr := ih true h.2 (fun _ x hx => Int.lt_trans hlt (h.1 x hx))
      rw [List.pairwise_cons, List.pairwise_cons]
      refine ⟨fun x hx => ?_, fun x hx => ?_, hr⟩
      · rcases List.mem_cons.1 hx with rfl | hx
        · exact hlt
        · rcases (fenceGo_mem key ys true x).1 hx with h2 | ⟨_, h2⟩
          · exact Int.lt_trans hlt (h.1 x h2)
          · cases h2
      · rcases (fenceGo_mem key ys true x).1 hx with h2 | ⟨_, h2⟩
        · exact h.1 x h2
        · cases h2
    · rename_i hc
      rw [List.pairwise_cons]
      refine ⟨fun x hx => ?_, ih _ h.2 ?_⟩
      · rcases (fenceGo_mem key ys _ x).1 hx with h2 | ⟨h2, h3⟩
        · exact h.1 x h2
        · subst h2
          rw [Bool.or_eq_false_iff] at h3
          have hne : ¬ y = x := by simpa using h3.2
          simp only [h3.1, Bool.false_or, Bool.and_eq_true, decide_eq_true_eq, Bool.not_eq_true'] at hc
          by_cases hlt : x < y
          · exact absurd ⟨hlt, h3.2⟩ hc
          · omega
      · intro e x hx
        rw [Bool.or_eq_true] at e
        rcases e with e | e
        · exact hd e x (by simp [hx])
        · have e : y = key := by simpa using e
          subst e
          exact h.1 x hx
theorem fenceD_rising {l : List Int} (key : Int) (h : l.Pairwise (· < ·)) : (fenceD l key).Pairwise (· < ·) := fenceGo_rising key l false h (by simp)
theorem may_fence {D : Dev} (h : MayD D) {key : Int} (hk : Given D.K.length D.n key) : MayD (fencesD D key) where
  s1 := h.s1
  k1 := h.k1
  k16 := h.k16
  ck := h.ck
  n1 := h.n1
  n2 := h.n2
  ss := h.ss
  cs := h.cs
  ks := h.ks
  fs := fun x hx => by
    rcases fenceD_mem.1 hx with h2 | rfl
    · exact h.fs x h2
    · exact hk
  fr := fenceD_rising key h.fr
/-- An act keeps it one that may be. -/
theorem may_act {D : Dev} (h : MayD D) {i : Nat} (hi : i < D.K.length) (a : ActM) : MayD (actD D i a) := by
  unfold actD
  by_cases he : actE D i a = 0
  · rw [if_neg (by simpa using he)]
    unfold actE at he
    split at he
    · cases he
    · split at he
      · cases he
      · rename_i h2
        split at he
        · cases he
        · split at he
          · cases he
          · rename_i h4
            split
            · rename_i hk
              exact may_force h i (by rcases Nat.lt_or_ge 512 a.b.size with h6 | h6; exact absurd (.inl ⟨.inl hk, h6⟩) h2; exact h6)
            · split
              · rename_i hk
                have hb : a.b.size ≤ 512 := by rcases Nat.lt_or_ge 512 a.b.size with h6 | h6; exact absurd (.inl ⟨.inr hk, h6⟩) h2; exact h6
                have hs : 0 ≤ a.s ∧ a.s < (D.S.length : Int) := Decidable.byContradiction fun h6 => h4 ⟨.inr (.inr hk), h6⟩
                exact may_put h i hs.1 hs.2 hb
              · split
                · exact may_flush h i
                · split
                  · rename_i hk
                    exact may_fence h (Decidable.byContradiction fun h6 => h2 (.inr (.inl ⟨hk, h6⟩)))
                  · split
                    · rename_i hk
                      exact may_register h hi (by have : ¬ 68719476736 ≤ D.n := fun h6 => h2 (.inr (.inr ⟨hk, h6⟩)); omega)
                    · exact h
  · rw [if_pos he]
    exact h

end Go.Proofs.YtjdacpnfgpdjhaaDoor
