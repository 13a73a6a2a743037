/-
  super: whether sectors are a device's, by a range over the iterator whose body may return: by contract.
-/
import Derived.Test.YtaegkpfjopajpaaDoorSuperFormat
namespace Go.Proofs.YtaegkpfjopajpaaDoor
open Go.RowKit Go.Shelf
set_option linter.unusedVariables false
set_option linter.unusedSimpArgs false
attribute [local go_sem] Oper.semAt_some

/-! A struct's cells behind a fence. -/
theorem wpListIn_store_mid {F : Fence} {n : Nat} {P : Program} {ops : Array Oper} {rest : List Oper} {op : Oper} {a : Act} {w : World} {Q : Exit → Act → World → Prop} (hgd : op.guard = none) (ty : TypeId) (x y : Operand) (ho : op.op = .store ty x y)
    (b o : Nat) (cells : Array Value) (hx : a.eval x = .pointer (some ⟨b, o, none⟩)) (hy : a.eval y = .agg cells)
    (ht : w.there b o cells.size) (hi : (P.info? ty).map (·.size) = some cells.size) (h1 : cells.all (·.oneCell') = true)
    (h : wpListIn F n P ops Q rest (a.put op.dst undef) (w.setCells b o cells.toList)) : wpListIn F n P ops Q (op :: rest) a w := by
  refine wpListIn_plain hgd fun K hK' => ?_
  unfold Oper.wpIn
  refine ⟨?_, ?_⟩
  · simp [Oper.about, ho]
  · rw [Oper.semAt_plain F _ _ (by rw [ho]; intro c hc'; cases hc')]
    unfold execOp
    simp only [ho, hx, hy, Instr.storeAt, Instr.sureAddr, Sem.run_bind, Sem.run_pure, Result.andThen_ok, run_storeVar_mid w b o ty cells ht hi h1]
    exact hK' _ _ h
theorem geo_put {W : World} {b : Nat} {T : TypeId} {c0 c1 c2 c3 c4 c5 c6 c7 : Value} (h : Blk W b #[c0, c1, c2, c3, c4, c5, c6, c7] T) (v0 v1 v2 v3 v4 v5 v6 v7 : Value) :
    Blk (W.setCells b 0 [v0, v1, v2, v3, v4, v5, v6, v7]) b #[v0, v1, v2, v3, v4, v5, v6, v7] T := by
  have h0 : Blk (W.setCell ⟨b, 0, none⟩ v0) b #[v0, c1, c2, c3, c4, c5, c6, c7] T := by simpa using h.set 0 v0
  have h1 : Blk ((W.setCell ⟨b, 0, none⟩ v0).setCell ⟨b, 1, none⟩ v1) b #[v0, v1, c2, c3, c4, c5, c6, c7] T := by simpa using h0.set 1 v1
  have h2 : Blk (((W.setCell ⟨b, 0, none⟩ v0).setCell ⟨b, 1, none⟩ v1).setCell ⟨b, 2, none⟩ v2) b #[v0, v1, v2, c3, c4, c5, c6, c7] T := by simpa using h1.set 2 v2
  have h3 : Blk ((((W.setCell ⟨b, 0, none⟩ v0).setCell ⟨b, 1, none⟩ v1).setCell ⟨b, 2, none⟩ v2).setCell ⟨b, 3, none⟩ v3) b #[v0, v1, v2, v3, c4, c5, c6, c7] T := by simpa using h2.set 3 v3
  have h4 : Blk (((((W.setCell ⟨b, 0, none⟩ v0).setCell ⟨b, 1, none⟩ v1).setCell ⟨b, 2, none⟩ v2).setCell ⟨b, 3, none⟩ v3).setCell ⟨b, 4, none⟩ v4) b #[v0, v1, v2, v3, v4, c5, c6, c7] T := by simpa using h3.set 4 v4
  have h5 : Blk ((((((W.setCell ⟨b, 0, none⟩ v0).setCell ⟨b, 1, none⟩ v1).setCell ⟨b, 2, none⟩ v2).setCell ⟨b, 3, none⟩ v3).setCell ⟨b, 4, none⟩ v4).setCell ⟨b, 5, none⟩ v5) b #[v0, v1, v2, v3, v4, v5, c6, c7] T := by simpa using h4.set 5 v5
  have h6 : Blk (((((((W.setCell ⟨b, 0, none⟩ v0).setCell ⟨b, 1, none⟩ v1).setCell ⟨b, 2, none⟩ v2).setCell ⟨b, 3, none⟩ v3).setCell ⟨b, 4, none⟩ v4).setCell ⟨b, 5, none⟩ v5).setCell ⟨b, 6, none⟩ v6) b #[v0, v1, v2, v3, v4, v5, v6, c7] T := by simpa using h5.set 6 v6
  have h7 : Blk ((((((((W.setCell ⟨b, 0, none⟩ v0).setCell ⟨b, 1, none⟩ v1).setCell ⟨b, 2, none⟩ v2).setCell ⟨b, 3, none⟩ v3).setCell ⟨b, 4, none⟩ v4).setCell ⟨b, 5, none⟩ v5).setCell ⟨b, 6, none⟩ v6).setCell ⟨b, 7, none⟩ v7) b #[v0, v1, v2, v3, v4, v5, v6, v7] T := by simpa using h6.set 7 v7
  exact h7
theorem Blk.others {c b : Nat} {cs : Array Value} {T : TypeId} (hne : c ≠ b) : ∀ (vs : List Value) (o : Nat) {W : World}, Blk W c cs T → Blk (W.setCells b o vs) c cs T
  | [], _, _, h => h
  | v :: vs, o, _, h => Blk.others hne vs (o + 1) (h.other hne o v)
theorem keepsOthers_cells {b : Nat} : ∀ (vs : List Value) (o : Nat) (W : World), KeepsOthers W (W.setCells b o vs)
  | [], _, W => KeepsOthers.refl W
  | v :: vs, o, W => (KeepsOthers.setCell W ⟨b, o, none⟩ v).trans (keepsOthers_cells vs (o + 1) (W.setCell ⟨b, o, none⟩ v))
theorem keepB_cells {b c : Nat} (hne : c ≠ b) : ∀ (vs : List Value) (o : Nat) {W W' : World}, KeepB b W W' → KeepB b W (W'.setCells c o vs)
  | [], _, _, _, h => h
  | v :: vs, o, _, _, h => keepB_cells hne vs (o + 1) (h.set (a := ⟨c, o, none⟩) hne v)
theorem Blk.set1 {W : World} {b : Nat} {T : TypeId} {u : Value} (h : Blk W b #[u] T) (v : Value) : Blk (W.setCell ⟨b, 0, none⟩ v) b #[v] T := h.set 0 v

/-- Two results, each in a block of the call's own. -/
theorem results_cell_cell {P : Program} {fn : Func} {t u : Tmp} {ty ty2 : TypeId} (h : fn.results = #[.cell t ty, .cell u ty2]) {tmps : Array Value} {w : World} {b c : Nat} {cs : List Value} {d : TypeDesc} {v : Value} {k : IntKind}
    (hp : tmps.getD t undef = .pointer (some ⟨b, 0, none⟩)) (hq : tmps.getD u undef = .pointer (some ⟨c, 0, none⟩)) (hr : w.rangeAt b 0 cs) (hu : P.underlying ty = some d) (hd : d.isRow = true) (hi : (P.info? ty).map (·.size) = some cs.length)
    (hc : w.cell? ⟨c, 0, none⟩ = some v) (hu2 : P.underlying ty2 = some (.int k)) :
    (results fn tmps).run P w = .ok (.tuple #[.agg cs.toArray, v]) w := by
  have hp' : tmps[t]?.getD undef = .pointer (some ⟨b, 0, none⟩) := by simpa using hp
  have hq' : tmps[u]?.getD undef = .pointer (some ⟨c, 0, none⟩) := by simpa using hq
  have h2 : (loadVar ty2 ⟨c, 0, none⟩).run P w = .ok v w := by
    have hagg : (isAgg ty2).run P w = .ok false w := by
      unfold isAgg
      rw [Sem.run_bind, run_underlying hu2 w]
      simp
    simp [loadVar, Sem.run_bind, hagg, go_sem, hc]
  simp [results, h, hp', hq', asAddr, run_loadVar_mid w b 0 ty cs d hr hu hd hi, h2]

set_option maxRecDepth 100000 in
set_option maxHeartbeats 1000000 in
theorem superFits_any (k : Int) (s : ByteArray) (w : World) (hs : s.size ≤ maxLen) (ht : TabOk w) :
    Calls Tryd.prog 37 #[.int .i8 k, .string s] w fun e w' => e = .returned (.bool (fitB k s)) ∧ Below w.heap.size w w' := by
  by_cases hk5 : k = 5
  · subst hk5
    have HO := Lib.hid (fit_head s (k := 5) rfl)
    go_enter Tryd.func37, Tryd.ntmps37
    go_wp2_with fail
    refine (Tail_any s w hs ht).mono ?_
    rintro e w1 ⟨rfl, hb1⟩
    rcases hB : tailB s with _ | _
    · rw [(tailV_no hB).1, (tailV_no hB).2]
      rw [hB] at HO
      clear hB
      go_wp2_with fail
      go_ret
      exact ⟨ret_bool HO.out.symm, hb1⟩
    · rw [(tailV_yes hB).2]
      rw [hB] at HO
      clear hB
      generalize tailV s = V
      go_wp2_with fail
      go_ret
      exact ⟨ret_bool HO.out.symm, hb1⟩
  · have b5 : (k == 5) = false := beq_no hk5
    unfold maxLen at hs
    by_cases hk7 : k = 7
    · subst hk7
      have HO := Lib.hid (fit_data s (k := 7) rfl)
      clear hk5 b5
      go_enter Tryd.func37, Tryd.ntmps37
      go_wp2_with fail
      all_goals
        go_ret
        exact ⟨ret_bool (by rw [HO.out]; simp <;> omega), Below.refl _ _⟩
    · have b7 : (k == 7) = false := beq_no hk7
      have HO := Lib.hid (fit_other s hk5 hk7)
      clear hk5 hk7
      go_enter Tryd.func37, Tryd.ntmps37
      go_wp2_with fail
      all_goals
        go_ret
        exact ⟨ret_bool (by rw [HO.out]; simp <;> omega), Below.refl _ _⟩

end Go.Proofs.YtaegkpfjopajpaaDoor
