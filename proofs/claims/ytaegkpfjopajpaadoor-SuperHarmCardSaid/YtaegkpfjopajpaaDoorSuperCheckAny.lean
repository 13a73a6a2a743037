/-
  super: whether sectors are a device's, by a range over the iterator whose body may return: by contract.
-/
import Derived.Test.YtaegkpfjopajpaaDoorSuperCheck
import Derived.Deep.DeepCutAuto
import Derived.Deep.RegionHeld3
namespace Go.Proofs.YtaegkpfjopajpaaDoor
open Go.RowKit Go.Shelf
set_option linter.unusedVariables false
set_option linter.unusedSimpArgs false
attribute [local go_sem] Oper.semAt_some

/-- What lies in Check's own blocks. -/
def ChkS (w : World) (A : Option Addr) (n c : Nat) (g : G) (bt : Nat) (W : World) : Prop :=
  Blk W w.heap.size #[.slice A n c] 34 ∧ Blk W (w.heap.size + 1) #[.int .i64 0, .int .i64 0, .int .i64 0, .int .i64 0, .int .i64 0, .int .i64 0, .int .i64 0, .int .i64 0] 23 ∧ Blk W (w.heap.size + 2) #[.int .i64 0] 25 ∧
  Blk W bt #[.int .i64 g.N, .int .i64 g.S, .int .i64 g.B, .int .i64 g.P, .int .i64 g.J, .int .i64 g.L, .int .i64 g.E, .int .i64 g.T] 23 ∧ Below w.heap.size w W
theorem ChkS.call {w : World} {A : Option Addr} {n c : Nat} {g : G} {bt : Nat} {W W' : World} (h : ChkS w A n c g bt W) (hb : Below W.heap.size W W') : ChkS w A n c g bt W' :=
  ⟨h.1.below hb h.1.lt, h.2.1.below hb h.2.1.lt, h.2.2.1.below hb h.2.2.1.lt, h.2.2.2.1.below hb h.2.2.2.1.lt, below_then h.2.2.2.2 hb⟩
theorem ChkS.drew {w : World} {A : Option Addr} {n c : Nat} {g : G} {bt : Nat} {W : World} (h : ChkS w A n c g bt W) : ChkS w A n c g bt W.drew := ⟨h.1, h.2.1, h.2.2.1, h.2.2.2.1, h.2.2.2.2.drew⟩
theorem chk_of {w : World} {A : Option Addr} {n c : Nat} {g : G} {bt : Nat} {W : World} (h : ChkS w A n c g bt W) : W.cell? ⟨bt, 0, none⟩ = some (.int .i64 g.N) ∧ W.cell? ⟨bt, 1, none⟩ = some (.int .i64 g.S) ∧ W.cell? ⟨bt, 2, none⟩ = some (.int .i64 g.B) ∧ W.cell? ⟨bt, 3, none⟩ = some (.int .i64 g.P) ∧ W.cell? ⟨bt, 4, none⟩ = some (.int .i64 g.J) ∧ W.cell? ⟨bt, 5, none⟩ = some (.int .i64 g.L) ∧ W.cell? ⟨bt, 6, none⟩ = some (.int .i64 g.E) ∧ W.cell? ⟨bt, 7, none⟩ = some (.int .i64 g.T) ∧ W.cell? ⟨w.heap.size, 0, none⟩ = some (.slice A n c) ∧ ChkS w A n c g bt W :=
  ⟨h.2.2.2.1.cell 0 _ rfl, h.2.2.2.1.cell 1 _ rfl, h.2.2.2.1.cell 2 _ rfl, h.2.2.2.1.cell 3 _ rfl, h.2.2.2.1.cell 4 _ rfl, h.2.2.2.1.cell 5 _ rfl, h.2.2.2.1.cell 6 _ rfl, h.2.2.2.1.cell 7 _ rfl, h.1.cell 0 _ rfl, h⟩
theorem of_chk {w : World} {A : Option Addr} {n c : Nat} {g : G} {bt : Nat} {W : World} (h : W.cell? ⟨bt, 0, none⟩ = some (.int .i64 g.N) ∧ W.cell? ⟨bt, 1, none⟩ = some (.int .i64 g.S) ∧ W.cell? ⟨bt, 2, none⟩ = some (.int .i64 g.B) ∧ W.cell? ⟨bt, 3, none⟩ = some (.int .i64 g.P) ∧ W.cell? ⟨bt, 4, none⟩ = some (.int .i64 g.J) ∧ W.cell? ⟨bt, 5, none⟩ = some (.int .i64 g.L) ∧ W.cell? ⟨bt, 6, none⟩ = some (.int .i64 g.E) ∧ W.cell? ⟨bt, 7, none⟩ = some (.int .i64 g.T) ∧ W.cell? ⟨w.heap.size, 0, none⟩ = some (.slice A n c) ∧ ChkS w A n c g bt W) : ChkS w A n c g bt W := h.2.2.2.2.2.2.2.2.2
theorem cTotal (w : World) (A : Option Addr) (n c : Nat) (g : G) (bt : Nat) (W : World) (h : W.cell? ⟨bt, 0, none⟩ = some (.int .i64 g.N) ∧ W.cell? ⟨bt, 1, none⟩ = some (.int .i64 g.S) ∧ W.cell? ⟨bt, 2, none⟩ = some (.int .i64 g.B) ∧ W.cell? ⟨bt, 3, none⟩ = some (.int .i64 g.P) ∧ W.cell? ⟨bt, 4, none⟩ = some (.int .i64 g.J) ∧ W.cell? ⟨bt, 5, none⟩ = some (.int .i64 g.L) ∧ W.cell? ⟨bt, 6, none⟩ = some (.int .i64 g.E) ∧ W.cell? ⟨bt, 7, none⟩ = some (.int .i64 g.T) ∧ W.cell? ⟨w.heap.size, 0, none⟩ = some (.slice A n c) ∧ ChkS w A n c g bt W) :
    Calls Tryd.prog 34 #[.agg #[.int .i64 g.N, .int .i64 g.S, .int .i64 g.B, .int .i64 g.P, .int .i64 g.J, .int .i64 g.L, .int .i64 g.E, .int .i64 g.T]] W fun e W' => e = .returned (.int .i64 ((totN g : Nat) : Int)) ∧ W'.cell? ⟨bt, 0, none⟩ = some (.int .i64 g.N) ∧ W'.cell? ⟨bt, 1, none⟩ = some (.int .i64 g.S) ∧ W'.cell? ⟨bt, 2, none⟩ = some (.int .i64 g.B) ∧ W'.cell? ⟨bt, 3, none⟩ = some (.int .i64 g.P) ∧ W'.cell? ⟨bt, 4, none⟩ = some (.int .i64 g.J) ∧ W'.cell? ⟨bt, 5, none⟩ = some (.int .i64 g.L) ∧ W'.cell? ⟨bt, 6, none⟩ = some (.int .i64 g.E) ∧ W'.cell? ⟨bt, 7, none⟩ = some (.int .i64 g.T) ∧ W'.cell? ⟨w.heap.size, 0, none⟩ = some (.slice A n c) ∧ ChkS w A n c g bt W' :=
  (total_g g W).mono fun e W' h' => ⟨by rw [h'.1, (total_bd g).1], chk_of ((of_chk h).call h'.2)⟩

/-- Check's answer where it is no. -/
def NoPost (w : World) (e : Ending) (w' : World) : Prop := e = .returned (.tuple #[.agg #[.int .i64 0, .int .i64 0, .int .i64 0, .int .i64 0, .int .i64 0, .int .i64 0, .int .i64 0, .int .i64 0], .int .i64 50]) ∧ Below w.heap.size w w'

set_option maxRecDepth 100000 in
set_option maxHeartbeats 1000000 in
theorem Check_none (A : Option Addr) (c : Nat) (w : World) : Calls Tryd.prog 19 #[.slice A 0 c] w (NoPost w) := by
  have z1' := (Blk.new (w.alloc (.cells #[.slice A 0 c] 34)) #[.int .i64 0, .int .i64 0, .int .i64 0, .int .i64 0, .int .i64 0, .int .i64 0, .int .i64 0, .int .i64 0] 23).alloc (.cells #[.int .i64 50] 25)
  have z2' := Blk.new ((w.alloc (.cells #[.slice A 0 c] 34)).alloc (.cells #[.int .i64 0, .int .i64 0, .int .i64 0, .int .i64 0, .int .i64 0, .int .i64 0, .int .i64 0, .int .i64 0] 23)) #[.int .i64 50] 25
  have hb' : Below w.heap.size w (((w.alloc (.cells #[.slice A 0 c] 34)).alloc (.cells #[.int .i64 0, .int .i64 0, .int .i64 0, .int .i64 0, .int .i64 0, .int .i64 0, .int .i64 0, .int .i64 0] 23)).alloc (.cells #[.int .i64 50] 25)) := (((Below.refl _ _).alloc (Nat.le_refl _) _).alloc (by simp) _).alloc (by simp; omega) _
  simp only [World.size_alloc] at z1' z2'
  refine (callsIn_wide (n := 6)).1 ?_
  refine callsIn_of_wp_marks Tryd.func19 rfl trivial ?_ rfl
  refine wpIn_wide.2 ?_
  simp only [Tryd.ntmps19, List.size_toArray, List.length_cons, List.length_nil, Nat.reduceAdd, Nat.reduceSub, Array.replicate_succ, Array.replicate_zero, List.push_toArray, List.append_toArray, List.nil_append, List.cons_append]
  go_wp2_with fail
  exact ⟨_, results_cell_cell (cs := [.int .i64 0, .int .i64 0, .int .i64 0, .int .i64 0, .int .i64 0, .int .i64 0, .int .i64 0, .int .i64 0]) Tryd.results19 (by rfl) (by rfl) z1'.range Tryd.underlying23 rfl (by kernel_rfl) (z2'.cell 0 _ rfl) Tryd.underlying25, rfl, hb'⟩

/-- The three blocks that Check begins with. -/
def ChkW (w : World) (A : Option Addr) (n c : Nat) : World := ((w.alloc (.cells #[.slice A n c] 34)).alloc (.cells #[.int .i64 0, .int .i64 0, .int .i64 0, .int .i64 0, .int .i64 0, .int .i64 0, .int .i64 0, .int .i64 0] 23)).alloc (.cells #[.int .i64 0] 25)
theorem chkW_size (w : World) (A : Option Addr) (n c : Nat) : (ChkW w A n c).heap.size = w.heap.size + 3 := by simp [ChkW]
theorem chkW_below (w : World) (A : Option Addr) (n c : Nat) : Below w.heap.size w (ChkW w A n c) := (((Below.refl _ _).alloc (Nat.le_refl _) _).alloc (by simp) _).alloc (by simp; omega) _
/-- .. behind the first sector's reading. -/
theorem chk_begin {w w1 : World} (A : Option Addr) (n c : Nat) (g : G) (hb : Below (ChkW w A n c).heap.size (ChkW w A n c) w1) : ChkS w A n c g w1.heap.size (w1.alloc (.cells #[.int .i64 g.N, .int .i64 g.S, .int .i64 g.B, .int .i64 g.P, .int .i64 g.J, .int .i64 g.L, .int .i64 g.E, .int .i64 g.T] 23)) := by
  have hs := chkW_size w A n c
  have k0 : Blk (ChkW w A n c) w.heap.size #[.slice A n c] 34 := ((Blk.new w _ _).alloc _).alloc _
  have k1 : Blk (ChkW w A n c) (w.heap.size + 1) #[.int .i64 0, .int .i64 0, .int .i64 0, .int .i64 0, .int .i64 0, .int .i64 0, .int .i64 0, .int .i64 0] 23 := by
    have h := (Blk.new (w.alloc (.cells #[.slice A n c] 34)) #[.int .i64 0, .int .i64 0, .int .i64 0, .int .i64 0, .int .i64 0, .int .i64 0, .int .i64 0, .int .i64 0] 23).alloc (.cells #[.int .i64 0] 25)
    simp only [World.size_alloc] at h
    exact h
  have k2 : Blk (ChkW w A n c) (w.heap.size + 2) #[.int .i64 0] 25 := by
    have h := Blk.new ((w.alloc (.cells #[.slice A n c] 34)).alloc (.cells #[.int .i64 0, .int .i64 0, .int .i64 0, .int .i64 0, .int .i64 0, .int .i64 0, .int .i64 0, .int .i64 0] 23)) #[.int .i64 0] 25
    simp only [World.size_alloc] at h
    exact h
  have hbw := (chkW_below w A n c).trans (hb.mono (by rw [hs]; omega))
  exact ⟨(k0.below hb k0.lt).alloc _, (k1.below hb k1.lt).alloc _, (k2.below hb k2.lt).alloc _, Blk.new _ _ _, hbw.alloc hbw.size _⟩
theorem ChkS.no {w : World} {A : Option Addr} {n c : Nat} {g : G} {bt : Nat} {W : World} (h : ChkS w A n c g bt W) :
    Blk ((W.setCells (w.heap.size + 1) 0 [.int .i64 0, .int .i64 0, .int .i64 0, .int .i64 0, .int .i64 0, .int .i64 0, .int .i64 0, .int .i64 0]).setCell ⟨w.heap.size + 2, 0, none⟩ (.int .i64 50)) (w.heap.size + 1) #[.int .i64 0, .int .i64 0, .int .i64 0, .int .i64 0, .int .i64 0, .int .i64 0, .int .i64 0, .int .i64 0] 23 ∧
    Blk ((W.setCells (w.heap.size + 1) 0 [.int .i64 0, .int .i64 0, .int .i64 0, .int .i64 0, .int .i64 0, .int .i64 0, .int .i64 0, .int .i64 0]).setCell ⟨w.heap.size + 2, 0, none⟩ (.int .i64 50)) (w.heap.size + 2) #[.int .i64 50] 25 ∧
    Below w.heap.size w ((W.setCells (w.heap.size + 1) 0 [.int .i64 0, .int .i64 0, .int .i64 0, .int .i64 0, .int .i64 0, .int .i64 0, .int .i64 0, .int .i64 0]).setCell ⟨w.heap.size + 2, 0, none⟩ (.int .i64 50)) :=
  ⟨(geo_put h.2.1 _ _ _ _ _ _ _ _).other (by omega) _ _, (h.2.2.1.others (by omega) _ _).set1 _, (setCells_below _ _ h.2.2.2.2 (by omega)).setCell (by show w.heap.size ≤ w.heap.size + 2; omega) _⟩

set_option maxRecDepth 100000 in
set_option maxHeartbeats 600000 in
theorem Check_unread (A : Option Addr) (n c : Nat) (l : List ByteArray) (w : World) (hn0 : 0 < n) (hA : Lies w w.heap.size A n (strV l)) (hs : ∀ s ∈ l, s.size ≤ maxLen) (hn : n ≤ maxLen) (ht : TabOk w) (hr : readB (l.getD 0 ⟨#[]⟩) = false) :
    Calls Tryd.prog 19 #[.slice A n c] w (NoPost w) := by
  have hl : l.length = n := by simpa [strV] using hA.1
  have hmem : l.getD 0 ⟨#[]⟩ ∈ l := by
    rw [List.getD, List.getElem?_eq_getElem (by omega)]
    exact List.getElem_mem _
  have hs0 := hs _ hmem
  have HR := Lib.hid (readG_no hr)
  obtain ⟨ad, rfl, hc0⟩ := str_at hA hn0 (by omega)
  have hlt : ad.block < w.heap.size := by
    obtain ⟨ad', h1, h2, _⟩ := hA.2 hn0
    cases h1
    exact h2
  have hc : (ChkW w (some ad) n c).cell? ad = some (.string (l.getD 0 ⟨#[]⟩)) := by
    have h := ((chkW_below w (some ad) n c).cell (p := ad) hlt).trans (show w.cell? ad = _ by simpa [Addr.add] using hc0)
    rw [h, List.getD, List.getElem?_eq_getElem (by omega)]
    rfl
  have htc := ht.below (chkW_below w (some ad) n c)
  have HC : Hid (ChkW w (some ad) n c = ((w.alloc (.cells #[.slice (some ad) n c] 34)).alloc (.cells #[.int .i64 0, .int .i64 0, .int .i64 0, .int .i64 0, .int .i64 0, .int .i64 0, .int .i64 0, .int .i64 0] 23)).alloc (.cells #[.int .i64 0] 25)) := rfl
  rw [HC.out] at hc
  unfold maxLen at hn
  generalize l.getD 0 ⟨#[]⟩ = s0 at *
  clear hmem hc0 hA hs hr ht
  refine (callsIn_wide (n := 6)).1 ?_
  refine callsIn_of_wp_marks Tryd.func19 rfl trivial ?_ rfl
  refine wpIn_wide.2 ?_
  simp only [Tryd.ntmps19, List.size_toArray, List.length_cons, List.length_nil, Nat.reduceAdd, Nat.reduceSub, Array.replicate_succ, Array.replicate_zero, List.push_toArray, List.append_toArray, List.nil_append, List.cons_append]
  go_wp2_with fail
  rw [← HC.out]
  refine (Read_any s0 _ hs0 htc).mono ?_
  rintro e w1 ⟨rfl, hb1⟩
  rw [HR.out.1, HR.out.2]
  have hS := (chk_begin (some ad) n c gNil hb1).drew
  clear hc htc
  go_wp2_with fail
  go_region
  generalize (w1.alloc (.cells #[.int .i64 gNil.N, .int .i64 gNil.S, .int .i64 gNil.B, .int .i64 gNil.P, .int .i64 gNil.J, .int .i64 gNil.L, .int .i64 gNil.E, .int .i64 gNil.T] 23)).drew = W2 at *
  have hth := hS.2.1.there
  have HS := Lib.hid hS.no
  have k2 := (hS.2.2.1.others (b := w.heap.size + 1) (by omega) [.int .i64 0, .int .i64 0, .int .i64 0, .int .i64 0, .int .i64 0, .int .i64 0, .int .i64 0, .int .i64 0] 0)
  have c2 : (W2.setCells (w.heap.size + 1) 0 [.int .i64 0, .int .i64 0, .int .i64 0, .int .i64 0, .int .i64 0, .int .i64 0, .int .i64 0, .int .i64 0]).cell? ⟨w.heap.size + 1 + 1, 0, none⟩ = some (.int .i64 0) := k2.cell 0 _ rfl
  have f2 : (W2.setCells (w.heap.size + 1) 0 [.int .i64 0, .int .i64 0, .int .i64 0, .int .i64 0, .int .i64 0, .int .i64 0, .int .i64 0, .int .i64 0]).frozen? ⟨w.heap.size + 1 + 1, 0, none⟩ = false := k2.free 0
  clear hS hb1 k2
  clear HC HR hs0
  go_wp2_with (refine wpList_store_mid (op := ⟨none, .store 23 _ _, _, _, _, none⟩) rfl 23 _ _ (by rfl) (w.heap.size + 1) 0 #[.int .i64 0, .int .i64 0, .int .i64 0, .int .i64 0, .int .i64 0, .int .i64 0, .int .i64 0, .int .i64 0] (by rfl) (by rfl) (by assumption) (by kernel_rfl) (by kernel_rfl) ?_; show wpList _ _ _ _ _ (W2.setCells (w.heap.size + 1) 0 [.int .i64 0, .int .i64 0, .int .i64 0, .int .i64 0, .int .i64 0, .int .i64 0, .int .i64 0, .int .i64 0]); generalize W2.setCells (w.heap.size + 1) 0 [.int .i64 0, .int .i64 0, .int .i64 0, .int .i64 0, .int .i64 0, .int .i64 0, .int .i64 0, .int .i64 0] = W3 at *)
  exact ⟨_, results_cell_cell (cs := [.int .i64 0, .int .i64 0, .int .i64 0, .int .i64 0, .int .i64 0, .int .i64 0, .int .i64 0, .int .i64 0]) Tryd.results19 (by rfl) (by rfl) HS.out.1.range Tryd.underlying23 rfl (by kernel_rfl) (HS.out.2.1.cell 0 _ rfl) Tryd.underlying25, rfl, HS.out.2.2⟩

set_option maxRecDepth 100000 in
set_option maxHeartbeats 600000 in
theorem Check_count (A : Option Addr) (n c : Nat) (l : List ByteArray) (w : World) (hn0 : 0 < n) (hA : Lies w w.heap.size A n (strV l)) (hs : ∀ s ∈ l, s.size ≤ maxLen) (hn : n ≤ maxLen) (ht : TabOk w) (hr : readB (l.getD 0 ⟨#[]⟩) = true) (hcount : l.length ≠ totN (readG (l.getD 0 ⟨#[]⟩))) :
    Calls Tryd.prog 19 #[.slice A n c] w (NoPost w) := by
  have hl : l.length = n := by simpa [strV] using hA.1
  have hmem : l.getD 0 ⟨#[]⟩ ∈ l := by
    rw [List.getD, List.getElem?_eq_getElem (by omega)]
    exact List.getElem_mem _
  have hs0 := hs _ hmem
  have HR := Lib.hid (readG_yes hr).2
  have hne : ((n : Int) != ((totN (readG (l.getD 0 ⟨#[]⟩)) : Nat) : Int)) = true := by rw [bne_iff_ne]; omega
  clear hcount
  obtain ⟨ad, rfl, hc0⟩ := str_at hA hn0 (by omega)
  have hlt : ad.block < w.heap.size := by
    obtain ⟨ad', h1, h2, _⟩ := hA.2 hn0
    cases h1
    exact h2
  have hc : (ChkW w (some ad) n c).cell? ad = some (.string (l.getD 0 ⟨#[]⟩)) := by
    have h := ((chkW_below w (some ad) n c).cell (p := ad) hlt).trans (show w.cell? ad = _ by simpa [Addr.add] using hc0)
    rw [h, List.getD, List.getElem?_eq_getElem (by omega)]
    rfl
  have htc := ht.below (chkW_below w (some ad) n c)
  have HC : Hid (ChkW w (some ad) n c = ((w.alloc (.cells #[.slice (some ad) n c] 34)).alloc (.cells #[.int .i64 0, .int .i64 0, .int .i64 0, .int .i64 0, .int .i64 0, .int .i64 0, .int .i64 0, .int .i64 0] 23)).alloc (.cells #[.int .i64 0] 25)) := rfl
  rw [HC.out] at hc
  unfold maxLen at hn
  generalize l.getD 0 ⟨#[]⟩ = s0 at *
  clear hmem hc0 hA hs hr ht
  refine (callsIn_wide (n := 6)).1 ?_
  refine callsIn_of_wp_marks Tryd.func19 rfl trivial ?_ rfl
  refine wpIn_wide.2 ?_
  simp only [Tryd.ntmps19, List.size_toArray, List.length_cons, List.length_nil, Nat.reduceAdd, Nat.reduceSub, Array.replicate_succ, Array.replicate_zero, List.push_toArray, List.append_toArray, List.nil_append, List.cons_append]
  go_wp2_with fail
  rw [← HC.out]
  refine (Read_any s0 _ hs0 htc).mono ?_
  rintro e w1 ⟨rfl, hb1⟩
  rw [HR.out]
  have hS := (chk_begin (some ad) n c (readG s0) hb1).drew
  have hN := chk_of hS
  generalize readG s0 = g at *
  generalize hbt : w1.heap.size = bt at *
  clear hc htc hb1
  go_upto_region 4 with fail
  clear hS
  go_region_held3 (fun W => W.cell? ⟨bt, 0, none⟩ = some (.int .i64 g.N) ∧ W.cell? ⟨bt, 1, none⟩ = some (.int .i64 g.S) ∧ W.cell? ⟨bt, 2, none⟩ = some (.int .i64 g.B) ∧ W.cell? ⟨bt, 3, none⟩ = some (.int .i64 g.P) ∧ W.cell? ⟨bt, 4, none⟩ = some (.int .i64 g.J) ∧ W.cell? ⟨bt, 5, none⟩ = some (.int .i64 g.L) ∧ W.cell? ⟨bt, 6, none⟩ = some (.int .i64 g.E) ∧ W.cell? ⟨bt, 7, none⟩ = some (.int .i64 g.T) ∧ W.cell? ⟨w.heap.size, 0, none⟩ = some (.slice (some ad) n c) ∧ ChkS w (some ad) n c g bt W) (first | assumption) (first
    | (go_at_call 34; (with_reducible refine (cTotal w (some ad) n c g bt _ ?_).mono ?_); assumption; rintro e W2 ⟨rfl, hN⟩))
  have hS := of_chk hN
  have hth := hS.2.1.there
  have HS := Lib.hid hS.no
  have k2 := (hS.2.2.1.others (b := w.heap.size + 1) (by omega) [.int .i64 0, .int .i64 0, .int .i64 0, .int .i64 0, .int .i64 0, .int .i64 0, .int .i64 0, .int .i64 0] 0)
  have c2 : (W2.setCells (w.heap.size + 1) 0 [.int .i64 0, .int .i64 0, .int .i64 0, .int .i64 0, .int .i64 0, .int .i64 0, .int .i64 0, .int .i64 0]).cell? ⟨w.heap.size + 1 + 1, 0, none⟩ = some (.int .i64 0) := k2.cell 0 _ rfl
  have f2 : (W2.setCells (w.heap.size + 1) 0 [.int .i64 0, .int .i64 0, .int .i64 0, .int .i64 0, .int .i64 0, .int .i64 0, .int .i64 0, .int .i64 0]).frozen? ⟨w.heap.size + 1 + 1, 0, none⟩ = false := k2.free 0
  clear hS k2
  clear HC HR hs0
  go_wp2_with (refine wpList_store_mid (op := ⟨none, .store 23 _ _, _, _, _, none⟩) rfl 23 _ _ (by rfl) (w.heap.size + 1) 0 #[.int .i64 0, .int .i64 0, .int .i64 0, .int .i64 0, .int .i64 0, .int .i64 0, .int .i64 0, .int .i64 0] (by rfl) (by rfl) (by assumption) (by kernel_rfl) (by kernel_rfl) ?_; show wpList _ _ _ _ _ (W2.setCells (w.heap.size + 1) 0 [.int .i64 0, .int .i64 0, .int .i64 0, .int .i64 0, .int .i64 0, .int .i64 0, .int .i64 0, .int .i64 0]); generalize W2.setCells (w.heap.size + 1) 0 [.int .i64 0, .int .i64 0, .int .i64 0, .int .i64 0, .int .i64 0, .int .i64 0, .int .i64 0, .int .i64 0] = W3 at *)
  exact ⟨_, results_cell_cell (cs := [.int .i64 0, .int .i64 0, .int .i64 0, .int .i64 0, .int .i64 0, .int .i64 0, .int .i64 0, .int .i64 0]) Tryd.results19 (by rfl) (by rfl) HS.out.1.range Tryd.underlying23 rfl (by kernel_rfl) (HS.out.2.1.cell 0 _ rfl) Tryd.underlying25, rfl, HS.out.2.2⟩

end Go.Proofs.YtaegkpfjopajpaaDoor
