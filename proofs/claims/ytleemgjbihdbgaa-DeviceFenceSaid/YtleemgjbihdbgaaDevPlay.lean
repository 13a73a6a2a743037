/-
  Devices over plain values: a new one, deeds; behind a fence; what is read of what was put, or forced, or flushed. It speaks of no program's function.
-/
import Derived.Test.YtleemgjbihdbgaaDevMath
namespace Go.Proofs.Ytleemgjbihdbgaa
set_option linter.unusedVariables false
set_option linter.unusedSimpArgs false

/-- A new device. -/
def newD (nodes : Nat) (S : List ByteArray) : Dev := ⟨S, List.replicate nodes [], List.replicate nodes 0, 1, []⟩
def NewOk (nodes : Int) (S : List ByteArray) : Prop := 1 ≤ nodes ∧ nodes ≤ 16 ∧ 1 ≤ S.length ∧ ∀ s ∈ S, s.size ≤ 512
theorem may_new {nodes : Nat} {S : List ByteArray} (h1 : 1 ≤ nodes) (h2 : nodes ≤ 16) (h3 : 1 ≤ S.length) (h4 : ∀ s ∈ S, s.size ≤ 512) : MayD (newD nodes S) where
  s1 := h3
  k1 := by simp [newD]; omega
  k16 := by simp [newD]; omega
  ck := by simp [newD]
  n1 := by simp [newD]
  n2 := by simp [newD]
  ss := h4
  cs := fun l hl => by
    have := List.eq_of_mem_replicate (show l ∈ List.replicate nodes [] from hl)
    subst this
    exact CacheOk.nil _
  ks := fun i x hx => by
    left
    have hx' : (List.replicate nodes (0 : Int))[i]? = some x := hx
    rw [List.getElem?_replicate] at hx'
    split at hx'
    · simpa using hx'.symm
    · cases hx'
  fs := by simp [newD]
  fr := by simp [newD]

/-- A deed; a node's number. -/
structure DeedM where
  dk : Int
  node : Int
  a : ActM
  kept : Nat
def NodeOk (D : Dev) (x : Int) : Prop := 0 ≤ x ∧ x < (D.K.length : Int)
instance (D : Dev) (x : Int) : Decidable (NodeOk D x) := inferInstanceAs (Decidable (_ ∧ _))
def deedE (D : Dev) (x : DeedM) : Int :=
  if x.dk = 0 then (if NodeOk D x.node then actE D x.node.toNat x.a else 2)
  else if x.dk = 1 ∨ x.dk = 2 then (if NodeOk D x.node then 0 else 2) else 0
def deedS (D : Dev) (x : DeedM) : ByteArray := if x.dk = 0 ∧ NodeOk D x.node then actS D x.node.toNat x.a else ⟨#[]⟩
def deedD (D : Dev) (x : DeedM) : Dev :=
  if NodeOk D x.node then
    (if x.dk = 0 then actD D x.node.toNat x.a else if x.dk = 1 then crashD D x.node.toNat x.kept else if x.dk = 2 then startD D x.node.toNat else D)
  else D
theorem may_deed {D : Dev} (h : MayD D) (x : DeedM) : MayD (deedD D x) := by
  unfold deedD
  split
  · rename_i hn
    split
    · exact may_act h (by have := hn.1; have := hn.2; omega) _
    · split
      · exact may_crash h _ _
      · split
        · exact may_start h _
        · exact h
  · exact h
/-- What no deed changes, or by how much. -/
structure Like (D E : Dev) : Prop where
  k : E.K.length = D.K.length
  s : E.S.length = D.S.length
  n0 : D.n ≤ E.n
  n1 : E.n ≤ D.n + 1
theorem Like.refl (D : Dev) : Like D D := ⟨rfl, rfl, by omega, by omega⟩
theorem like_act (D : Dev) (i : Nat) (a : ActM) : Like D (actD D i a) := by
  unfold actD
  split
  · exact Like.refl D
  · split
    · exact ⟨rfl, by simp [forceD], by simp [forceD], by simp [forceD]; omega⟩
    · split
      · exact ⟨rfl, rfl, by simp [putD, setCache], by simp [putD, setCache]; omega⟩
      · split
        · unfold flushD
          split
          · exact Like.refl D
          · exact ⟨rfl, by simp, by simp, by simp; omega⟩
        · split
          · exact ⟨rfl, rfl, by simp [fencesD], by simp [fencesD]; omega⟩
          · split
            · exact ⟨by simp [registerD], rfl, by simp [registerD]; omega, by simp [registerD]⟩
            · exact Like.refl D
theorem like_crash (D : Dev) (i kept : Nat) : Like D (crashD D i kept) := ⟨rfl, by unfold crashD; simp; split; rfl; exact crashS_length _ _ _, by simp [crashD], by simp [crashD]; omega⟩
theorem like_start (D : Dev) (i : Nat) : Like D (startD D i) := ⟨by simp [startD], rfl, by simp [startD], by simp [startD]; omega⟩
theorem like_deed (D : Dev) (x : DeedM) : Like D (deedD D x) := by
  unfold deedD
  split
  · split
    · exact like_act D _ _
    · split
      · exact like_crash D _ _
      · split
        · exact like_start D _
        · exact Like.refl D
  · exact Like.refl D

/-! ### Behind a fence -/
theorem key_given {D : Dev} (h : MayD D) {i : Nat} (h0 : keyOf D i ≠ 0) : Given D.K.length D.n (keyOf D i) ∧ keyOf D i % 16 = (i : Int) := by
  unfold keyOf at h0 ⊢
  rw [List.getD] at h0 ⊢
  cases e : D.K[i]? with
  | none => rw [e] at h0; simp at h0
  | some x =>
    rw [e] at h0
    rcases h.ks i x e with h1 | h1
    · simp [h1] at h0
    · simpa using h1
theorem key_set {D : Dev} {i j : Nat} (x : Int) (hi : i < D.K.length) : (D.K.set i x).getD j 0 = if i = j then x else D.K.getD j 0 := by
  rw [List.getD, List.getElem?_set, List.getD]
  split
  · rename_i e; subst e; rfl
  · rfl
/-- Node b has registered, and fences the key of node i. -/
theorem fence_first {D : Dev} (h : MayD D) {i b : Nat} (hb : b < D.K.length) (hib : i ≠ b) (hn : D.n < 68719476736) (h0 : keyOf D i ≠ 0) (s r : Int) (t u : ByteArray) (q : Int) :
    actE D b ⟨6, s, t, q⟩ = 0 ∧ actD D b ⟨6, s, t, q⟩ = registerD D b ∧ keyOf (registerD D b) i = keyOf D i ∧
    actE (registerD D b) b ⟨5, r, u, keyOf D i⟩ = 0 ∧ actD (registerD D b) b ⟨5, r, u, keyOf D i⟩ = fencesD (registerD D b) (keyOf D i) ∧
    fencedK (fencesD (registerD D b) (keyOf D i)) (keyOf D i) = true ∧ fencedK (fencesD (registerD D b) (keyOf D i)) (keyOf (registerD D b) b) = false := by
  obtain ⟨hg, hm⟩ := key_given h h0
  have hn1 := h.n1
  have h16 := h.k16
  have e1 : actE D b ⟨6, s, t, q⟩ = 0 := by simp [actE]; omega
  have hk1 : keyOf (registerD D b) i = keyOf D i := by
    show (D.K.set b _).getD i 0 = _
    rw [key_set _ hb, if_neg (by omega)]
    rfl
  have hkb : keyOf (registerD D b) b = 16 * D.n + (b : Int) := by
    show (D.K.set b _).getD b 0 = _
    rw [key_set _ hb, if_pos rfl]
  have hnf : ¬ (16 * D.n + (b : Int)) ∈ D.F := fun hx => by
    have := (h.fs _ hx).2.1
    omega
  have hf1 : fencedK (registerD D b) (keyOf (registerD D b) b) = false := by
    rw [hkb]
    unfold fencedK
    rw [decide_eq_false (by omega), Bool.false_or]
    exact decide_eq_false hnf
  have hg1 : Given (registerD D b).K.length (registerD D b).n (keyOf D i) := by
    show Given (D.K.set b _).length (D.n + 1) _
    rw [List.length_set]
    exact given_more hg (by omega)
  have e2 : actE (registerD D b) b ⟨5, r, u, keyOf D i⟩ = 0 := by simp [actE, hf1, hg1]
  refine ⟨e1, by simp [actD, e1], hk1, e2, by simp [actD, e2], ?_, ?_⟩
  · unfold fencedK
    rw [Bool.or_eq_true]
    exact .inr (decide_eq_true (fenceD_mem.2 (.inr rfl)))
  · rw [hkb]
    unfold fencedK
    rw [decide_eq_false (by omega), Bool.false_or]
    refine decide_eq_false fun hx => ?_
    rcases fenceD_mem.1 hx with h2 | h2
    · exact hnf h2
    · rw [← h2] at hm
      omega
/-- What holds behind it. -/
structure Shut (D : Dev) (i : Nat) (S : List ByteArray) : Prop where
  may : MayD D
  lt : i < D.K.length
  f : fencedK D (keyOf D i) = true
  s : D.S = S
theorem shut_act {D : Dev} {i : Nat} {S : List ByteArray} (h : Shut D i S) {a : ActM} (ha : a.k ≠ 6) : (actE D i a = 2 ∨ actE D i a = 61) ∧ actD D i a = D ∧ actS D i a = ⟨#[]⟩ := by
  have he : actE D i a = 2 ∨ actE D i a = 61 := by
    unfold actE
    split
    · exact .inl rfl
    · split
      · exact .inl rfl
      · rw [if_pos ⟨ha, h.f⟩]
        exact .inr rfl
  have hne : actE D i a ≠ 0 := by omega
  exact ⟨he, by rw [actD, if_pos hne], by rw [actS, if_pos hne]⟩
theorem shut_crash {D : Dev} {i : Nat} {S : List ByteArray} (h : Shut D i S) (kept : Nat) : Shut (crashD D i kept) i S := by
  refine ⟨may_crash h.may i kept, h.lt, h.f, ?_⟩
  show (if fencedK D (keyOf D i) then D.S else _) = S
  rw [if_pos h.f]
  exact h.s
theorem shut_start {D : Dev} {i : Nat} {S : List ByteArray} (h : Shut D i S) : Shut (startD D i) i S := by
  refine ⟨may_start h.may i, by simp [startD]; exact h.lt, ?_, h.s⟩
  have : keyOf (startD D i) i = 0 := by
    show (D.K.set i 0).getD i 0 = 0
    rw [key_set _ h.lt, if_pos rfl]
  rw [this]
  rfl

/-! ### What is read -/
def lookC (l : List Cel) (s : Int) : Option ByteArray := (l.find? fun c => c.1 == s).map Prod.snd
theorem look_none {l : List Cel} {s : Int} (h : ∀ c ∈ l, c.1 ≠ s) : lookC l s = none := by
  unfold lookC
  rw [List.find?_eq_none.2 (fun c hc => by simpa using h c hc)]
  rfl
theorem look_some {l : List Cel} {s : Int} {b : ByteArray} (hd : (l.map Prod.fst).Nodup) (h : (s, b) ∈ l) : lookC l s = some b := by
  induction l with
  | nil => cases h
  | cons c r ih =>
    rw [List.map_cons, List.nodup_cons] at hd
    unfold lookC
    rw [List.find?_cons]
    rcases List.mem_cons.1 h with h1 | h1
    · subst h1; simp
    · have hne : (c.1 == s) = false := by
        have : c.1 ≠ s := fun e => hd.1 (List.mem_map.2 ⟨_, h1, e.symm⟩)
        simpa using this
      rw [hne]
      exact ih hd.2 h1
theorem look_cons (c : Cel) (r : List Cel) (t : Int) : lookC (c :: r) t = if c.1 = t then some c.2 else lookC r t := by
  unfold lookC
  rw [List.find?_cons]
  by_cases h : c.1 = t
  · rw [if_pos h]; simp [h]
  · rw [if_neg h, show (c.1 == t) = false by simpa using h]
theorem look_append (l : List Cel) (s : Int) (b : ByteArray) (t : Int) (h : ∀ c ∈ l, c.1 ≠ s) : lookC (l ++ [(s, b)]) t = if s = t then some b else lookC l t := by
  induction l with
  | nil => simp [look_cons]
  | cons c r ih =>
    rw [List.cons_append, look_cons, look_cons, ih (fun x hx => h x (by simp [hx]))]
    by_cases h1 : c.1 = t
    · rw [if_pos h1, if_pos h1, if_neg (fun e => h c (by simp) (by omega))]
    · rw [if_neg h1, if_neg h1]
theorem look_set (l : List Cel) {k : Nat} {s : Int} (b : ByteArray) (hk : k < l.length) (e : (l[k]).1 = s) (hd : (l.map Prod.fst).Nodup) (t : Int) : lookC (l.set k (s, b)) t = if s = t then some b else lookC l t := by
  induction l generalizing k with
  | nil => simp at hk
  | cons c r ih =>
    rw [List.map_cons, List.nodup_cons] at hd
    cases k with
    | zero =>
      simp at e
      rw [List.set_cons_zero, look_cons, look_cons, e]
      by_cases h1 : s = t
      · rw [if_pos h1, if_pos h1]
      · rw [if_neg h1, if_neg h1, if_neg h1]
    | succ k =>
      simp at e hk
      rw [List.set_cons_succ, look_cons, look_cons, ih hk e hd.2]
      by_cases h1 : c.1 = t
      · have : s ≠ t := fun e2 => hd.1 (List.mem_map.2 ⟨r[k], List.getElem_mem _, by rw [e, e2, h1]⟩)
        rw [if_pos h1, if_pos h1, if_neg this]
      · rw [if_neg h1, if_neg h1]
theorem look_erase (l : List Cel) {k : Nat} {s : Int} (hk : k < l.length) (e : (l[k]).1 = s) (hd : (l.map Prod.fst).Nodup) (t : Int) : lookC (l.eraseIdx k) t = if s = t then none else lookC l t := by
  induction l generalizing k with
  | nil => simp at hk
  | cons c r ih =>
    rw [List.map_cons, List.nodup_cons] at hd
    cases k with
    | zero =>
      simp at e
      rw [List.eraseIdx_cons_zero, look_cons, e]
      by_cases h1 : s = t
      · rw [if_pos h1]
        exact look_none fun x hx e2 => hd.1 (List.mem_map.2 ⟨x, hx, by omega⟩)
      · rw [if_neg h1, if_neg h1]
    | succ k =>
      simp at e hk
      rw [List.eraseIdx_cons_succ, look_cons, look_cons, ih hk e hd.2]
      by_cases h1 : c.1 = t
      · have : s ≠ t := fun e2 => hd.1 (List.mem_map.2 ⟨r[k], List.getElem_mem _, by rw [e, e2, h1]⟩)
        rw [if_pos h1, if_pos h1, if_neg this]
      · rw [if_neg h1, if_neg h1]
theorem look_put {l : List Cel} {s : Int} (b : ByteArray) (hd : (l.map Prod.fst).Nodup) (t : Int) : lookC (putC l s b) t = if s = t then some b else lookC l t := by
  unfold putC
  split
  · rename_i k hk
    obtain ⟨hl, e⟩ := place_some hk
    exact look_set l b hl e hd t
  · rename_i hn
    exact look_append l s b t (place_none hn)
theorem look_force {l : List Cel} {s : Int} (hd : (l.map Prod.fst).Nodup) (t : Int) : lookC (forceC l s) t = if s = t then none else lookC l t := by
  unfold forceC
  split
  · rename_i k hk
    obtain ⟨hl, e⟩ := place_some hk
    exact look_erase l hl e hd t
  · rename_i hn
    by_cases h1 : s = t
    · rw [if_pos h1]; subst h1; exact look_none (place_none hn)
    · rw [if_neg h1]
theorem read_look (D : Dev) (i : Nat) (s : Int) (hd : ((cacheOf D i).map Prod.fst).Nodup) : readD D i s = (lookC (cacheOf D i) s).getD (D.S.getD s.toNat ⟨#[]⟩) := by
  unfold readD
  split
  · rename_i k hk
    obtain ⟨hl, e⟩ := place_some hk
    have : lookC (cacheOf D i) s = some ((cacheOf D i)[k]).2 := look_some hd (by rw [← e]; exact List.getElem_mem _)
    rw [this, List.getD, List.getElem?_eq_getElem hl]
    rfl
  · rename_i hn
    rw [look_none (place_none hn)]
    rfl
theorem putC_length (l : List Cel) (s : Int) (b : ByteArray) : (putC l s b).length ≤ l.length + 1 := by
  unfold putC
  split <;> simp
theorem forceC_length (l : List Cel) (s : Int) : (forceC l s).length ≤ l.length := by
  unfold forceC
  split
  · exact List.length_eraseIdx_le _ _
  · exact Nat.le_refl _
theorem cache_set {D : Dev} {i : Nat} (hi : i < D.C.length) (l : List Cel) (j : Nat) : (D.C.set i l).getD j [] = if i = j then l else cacheOf D j := by
  unfold cacheOf
  rw [List.getD, List.getElem?_set, List.getD]
  split
  · rename_i e; subst e; rfl
  · rfl

/-- Two nodes, both with keys that are not fenced; the first puts and forces, the other reads. -/
structure Duo (D : Dev) (mine stands : List ByteArray) (n : Nat) : Prop where
  may : MayD D
  k : D.K.length = 2
  f0 : fencedK D (keyOf D 0) = false
  f1 : fencedK D (keyOf D 1) = false
  s : D.S = stands
  c1 : cacheOf D 1 = []
  m : mine.length = D.S.length
  r : ∀ k : Nat, k < D.S.length → readD D 0 (k : Int) = mine.getD k ⟨#[]⟩
  n : (cacheOf D 0).length ≤ n
theorem Duo.c {D : Dev} {mine stands : List ByteArray} {n : Nat} (h : Duo D mine stands n) : D.C.length = 2 := h.may.ck.trans h.k
theorem getD_set (l : List ByteArray) {k j : Nat} (b : ByteArray) (hk : k < l.length) : (l.set k b).getD j ⟨#[]⟩ = if k = j then b else l.getD j ⟨#[]⟩ := by
  rw [List.getD, List.getElem?_set, List.getD]
  split
  · rename_i e; subst e; rfl
  · rfl
theorem duo_reads {D : Dev} {mine stands : List ByteArray} {n : Nat} (h : Duo D mine stands n) {k : Nat} (hk : k < D.S.length) (t : ByteArray) (q : Int) :
    actE D 0 ⟨1, (k : Int), t, q⟩ = 0 ∧ actS D 0 ⟨1, (k : Int), t, q⟩ = mine.getD k ⟨#[]⟩ ∧ actE D 1 ⟨1, (k : Int), t, q⟩ = 0 ∧ actS D 1 ⟨1, (k : Int), t, q⟩ = stands.getD k ⟨#[]⟩ := by
  have e0 : actE D 0 ⟨1, (k : Int), t, q⟩ = 0 := by simp [actE, h.f0]; omega
  have e1 : actE D 1 ⟨1, (k : Int), t, q⟩ = 0 := by simp [actE, h.f1]; omega
  refine ⟨e0, by simp [actS, e0, h.r k hk], e1, ?_⟩
  simp only [actS, e1, ne_eq, not_true_eq_false, if_false, if_true]
  unfold readD
  rw [h.c1]
  simp [placeO, h.s]
theorem duo_put {D : Dev} {mine stands : List ByteArray} {n : Nat} (h : Duo D mine stands n) {k : Nat} (hk : k < D.S.length) {b : ByteArray} (hb : b.size ≤ 512) (q : Int) :
    actE D 0 ⟨3, (k : Int), b, q⟩ = 0 ∧ Duo (actD D 0 ⟨3, (k : Int), b, q⟩) (mine.set k b) stands (n + 1) := by
  have e0 : actE D 0 ⟨3, (k : Int), b, q⟩ = 0 := by simp [actE, h.f0]; omega
  have ed : actD D 0 ⟨3, (k : Int), b, q⟩ = putD D 0 (k : Int) b := by simp [actD, e0]
  have hC := h.c
  have hc0 : cacheOf (putD D 0 (k : Int) b) 0 = putC (cacheOf D 0) (k : Int) b := by
    show (D.C.set 0 _).getD 0 [] = _
    rw [cache_set (by omega), if_pos rfl]
  have hok := (cache_ok h.may 0).d
  have hm : MayD (putD D 0 (k : Int) b) := may_put h.may 0 (by omega) (by omega) hb
  rw [ed]
  refine ⟨e0, ⟨hm, h.k, h.f0, h.f1, h.s, ?_, by rw [List.length_set]; exact h.m, fun j hj => ?_, ?_⟩⟩
  · show (D.C.set 0 _).getD 1 [] = []
    rw [cache_set (by omega), if_neg (by omega)]
    exact h.c1
  · have hj' : j < D.S.length := hj
    have hold := h.r j hj'
    rw [read_look _ _ _ hok] at hold
    rw [read_look _ _ _ (by rw [hc0]; exact ((cache_ok hm 0).d |> fun d => by rw [hc0] at d; exact d)), hc0, look_put b hok, getD_set _ _ (by have := h.m; omega)]
    by_cases e : k = j
    · subst e; simp
    · rw [if_neg (by omega), if_neg e]
      exact hold
  · rw [hc0]
    have := putC_length (cacheOf D 0) (k : Int) b
    have := h.n
    omega
theorem duo_force {D : Dev} {mine stands : List ByteArray} {n : Nat} (h : Duo D mine stands n) {k : Nat} (hk : k < D.S.length) {b : ByteArray} (hb : b.size ≤ 512) (q : Int) :
    actE D 0 ⟨2, (k : Int), b, q⟩ = 0 ∧ Duo (actD D 0 ⟨2, (k : Int), b, q⟩) (mine.set k b) (stands.set k b) (n + 1) := by
  have e0 : actE D 0 ⟨2, (k : Int), b, q⟩ = 0 := by simp [actE, h.f0]; omega
  have ed : actD D 0 ⟨2, (k : Int), b, q⟩ = forceD D 0 (k : Int) b := by simp [actD, e0]
  have hC := h.c
  have hc0 : cacheOf (forceD D 0 (k : Int) b) 0 = forceC (cacheOf D 0) (k : Int) := by
    show (D.C.set 0 _).getD 0 [] = _
    rw [cache_set (by omega), if_pos rfl]
  have hok := (cache_ok h.may 0).d
  have hm : MayD (forceD D 0 (k : Int) b) := may_force h.may 0 hb
  have hS : (forceD D 0 (k : Int) b).S = D.S.set k b := by show D.S.set ((k : Int).toNat) b = _; rw [Int.toNat_natCast]
  rw [ed]
  refine ⟨e0, ⟨hm, h.k, h.f0, h.f1, by rw [hS, h.s], ?_, by rw [hS, List.length_set, List.length_set]; exact h.m, fun j hj => ?_, ?_⟩⟩
  · show (D.C.set 0 _).getD 1 [] = []
    rw [cache_set (by omega), if_neg (by omega)]
    exact h.c1
  · have hj' : j < D.S.length := by rw [hS, List.length_set] at hj; exact hj
    have hold := h.r j hj'
    rw [read_look _ _ _ hok] at hold
    rw [read_look _ _ _ (by rw [hc0]; exact ((cache_ok hm 0).d |> fun d => by rw [hc0] at d; exact d)), hc0, look_force hok, getD_set _ _ (by have := h.m; omega), hS, Int.toNat_natCast, getD_set _ _ hk]
    by_cases e : k = j
    · subst e; simp
    · rw [if_neg (by omega), if_neg e, if_neg e]
      exact hold
  · rw [hc0]
    have := forceC_length (cacheOf D 0) (k : Int)
    have := h.n
    omega
/-- Flushing. -/
theorem duo_flush {D : Dev} {mine stands : List ByteArray} {n : Nat} (h : Duo D mine stands (n + 1)) (hn : (cacheOf D 0).length = n + 1) (s : Int) (t : ByteArray) (q : Int) :
    actE D 0 ⟨4, s, t, q⟩ = 0 ∧ ∃ st, Duo (actD D 0 ⟨4, s, t, q⟩) mine st n ∧ (cacheOf (actD D 0 ⟨4, s, t, q⟩) 0).length = n := by
  have e0 : actE D 0 ⟨4, s, t, q⟩ = 0 := by simp [actE, h.f0]
  have ed : actD D 0 ⟨4, s, t, q⟩ = flushD D 0 := by simp [actD, e0]
  have hC := h.c
  have hok := cache_ok h.may 0
  rw [ed]
  refine ⟨e0, ?_⟩
  obtain ⟨c, r, hcr⟩ : ∃ c r, cacheOf D 0 = c :: r := by
    cases e : cacheOf D 0 with
    | nil => rw [e] at hn; simp at hn
    | cons c r => exact ⟨c, r, rfl⟩
  have hF : flushD D 0 = { D with S := D.S.set c.1.toNat c.2, C := D.C.set 0 r } := by unfold flushD; rw [hcr]
  have hm := may_flush h.may 0
  rw [hF] at hm ⊢
  have hc0 : cacheOf { D with S := D.S.set c.1.toNat c.2, C := D.C.set 0 r } 0 = r := by
    show (D.C.set 0 r).getD 0 [] = r
    rw [cache_set (by omega), if_pos rfl]
  rw [hcr] at hn hok
  have hca := hok.a c (by simp)
  have hd := hok.d
  rw [List.map_cons, List.nodup_cons] at hd
  have hrl : r.length = n := by simpa using hn
  refine ⟨_, ⟨hm, h.k, h.f0, h.f1, rfl, ?_, by rw [List.length_set]; exact h.m, fun j hj => ?_, by rw [hc0]; omega⟩, by rw [hc0]; exact hrl⟩
  · show (D.C.set 0 r).getD 1 [] = []
    rw [cache_set (by omega), if_neg (by omega)]
    exact h.c1
  · have hj' : j < D.S.length := by
      have : j < (D.S.set c.1.toNat c.2).length := hj
      rwa [List.length_set] at this
    have hold := h.r j hj'
    rw [read_look _ _ _ (by rw [hcr]; exact hok.d), hcr, look_cons] at hold
    rw [read_look _ _ _ (by rw [hc0]; exact hd.2), hc0]
    show (lookC r (j : Int)).getD ((D.S.set c.1.toNat c.2).getD ((j : Int).toNat) ⟨#[]⟩) = _
    rw [Int.toNat_natCast, getD_set _ _ (by omega)]
    by_cases e : c.1 = (j : Int)
    · rw [if_pos e] at hold
      rw [if_pos (by omega), look_none (fun x hx e2 => hd.1 (List.mem_map.2 ⟨x, hx, by omega⟩))]
      simpa using hold
    · rw [if_neg e] at hold
      rw [if_neg (by omega)]
      simpa using hold
theorem duo_end {D : Dev} {mine stands : List ByteArray} {n : Nat} (h : Duo D mine stands n) (hn : (cacheOf D 0).length = 0) : D.S = mine := by
  apply List.ext_getElem
  · exact h.m.symm
  · intro j h1 h2
    have := h.r j h1
    have hc : cacheOf D 0 = [] := List.eq_nil_of_length_eq_zero hn
    unfold readD at this
    rw [hc] at this
    simp only [placeO, List.findIdx?_nil, Int.toNat_natCast] at this
    rw [List.getD, List.getD, List.getElem?_eq_getElem h1, List.getElem?_eq_getElem h2] at this
    exact this
/-- Two nodes have registered. -/
theorem duo_start {S : List ByteArray} (h1 : 1 ≤ S.length) (h2 : ∀ s ∈ S, s.size ≤ 512) (s : Int) (t : ByteArray) (q : Int) :
    actE (newD 2 S) 0 ⟨6, s, t, q⟩ = 0 ∧ actE (actD (newD 2 S) 0 ⟨6, s, t, q⟩) 1 ⟨6, s, t, q⟩ = 0 ∧ Duo (actD (actD (newD 2 S) 0 ⟨6, s, t, q⟩) 1 ⟨6, s, t, q⟩) S S 0 := by
  have hm := may_new (nodes := 2) (by omega) (by omega) h1 h2
  have e0 : actE (newD 2 S) 0 ⟨6, s, t, q⟩ = 0 := by simp [actE, newD]
  have d0 : actD (newD 2 S) 0 ⟨6, s, t, q⟩ = registerD (newD 2 S) 0 := by simp [actD, e0]
  rw [d0]
  have hm1 : MayD (registerD (newD 2 S) 0) := may_register hm (by simp [newD]) (by simp [newD])
  have e1 : actE (registerD (newD 2 S) 0) 1 ⟨6, s, t, q⟩ = 0 := by simp [actE, newD, registerD]
  have d1 : actD (registerD (newD 2 S) 0) 1 ⟨6, s, t, q⟩ = registerD (registerD (newD 2 S) 0) 1 := by simp [actD, e1]
  rw [d1]
  have hm2 : MayD (registerD (registerD (newD 2 S) 0) 1) := may_register hm1 (by simp [newD, registerD]) (by simp [newD, registerD])
  refine ⟨e0, e1, ⟨hm2, rfl, rfl, rfl, rfl, rfl, rfl, fun k hk => ?_, Nat.le_refl 0⟩⟩
  show readD (registerD (registerD (newD 2 S) 0) 1) 0 (k : Int) = _
  unfold readD
  rw [show cacheOf (registerD (registerD (newD 2 S) 0) 1) 0 = [] from rfl]
  simp [placeO, registerD, newD]

end Go.Proofs.Ytleemgjbihdbgaa
