/-
  Steps of a region that draws its order: a call by its contract, a text appended to a row of the call's own.
-/
import Derived.Test.YtpglcbidfghfkaaPkTextRows
import Derived.Deep.RegionLaw
namespace Go.Proofs.Ytpglcbidfghfkaa
open Go.RowKit Go.Lib
set_option linter.unusedVariables false

/-- A call of a Go function as one step, by its contract. -/
theorem step_enter {P : Program} {ops : Array Oper} {o : Oper} {a : Act} {w : World} {K : Act → World → Prop} {Q : Exit → Act → World → Prop} {E : Prop} (hg : o.guard = none) (f : Nat) (vs : Array Value)
    {R : Ending → World → Prop} (hc : Calls P f vs w R) (hrun : (execOp a.eval o).run P w = .ok (.enter f vs) w)
    (h : ∀ e w', R e w' → ∃ v, e = .returned v ∧ K (a.put o.dst v) w') : if Region.wanted o (yielded ops a.tmps) = true then Oper.wp P o a w K Q else E := by
  have hw : Region.wanted o (yielded ops a.tmps) = true := by simp [Region.wanted, hg]
  rw [if_pos hw]
  unfold Oper.wp
  rw [hrun, Oper.upon_enter]
  refine hc.mono ?_
  intro e w' hr
  obtain ⟨v, rfl, hk⟩ := h e w' hr
  exact hk
theorem OwnT.drew {w : World} {B : Nat} {v : Value} {l : List ByteArray} (h : OwnT w B v l) : OwnT w.drew B v l := h
/-- 'append(row, t)' as one step of a region that draws, row the call's own. -/
theorem step_app_text {ops : Array Oper} {o : Oper} {a : Act} {w : World} {K : Act → World → Prop} {Q : Exit → Act → World → Prop} {E : Prop} (hg : o.guard = none) (s x : Operand)
    (ho : o.op = .call { callee := .builtin .append, args := #[s, x], argTypes := #[22, 22] }) (B : Nat) (v : Value) (l : List ByteArray) (y : ByteArray) (hs : a.eval s = v) (hown : OwnT w B v l)
    (hx : a.eval x = .slice (some ⟨w.heap.size, 0, none⟩) 1 1) (hl : l.length ≤ 1048576) (hB : B ≤ w.heap.size)
    (h : ∀ v' w', OwnT w' B v' (l ++ [y]) → Below B w w' → K (a.put o.dst v') w') :
    if Region.wanted o (yielded ops a.tmps) = true then Oper.wp Try.prog o a (w.alloc (.cells #[.string y] 9)) K Q else E := by
  have hw : Region.wanted o (yielded ops a.tmps) = true := by simp [Region.wanted, hg]
  rw [if_pos hw]
  obtain ⟨i0, hi, hz0, hz1, hz2⟩ := info_parts infoText
  obtain ⟨v', w', hrun, r1, r2, _⟩ := run_append_own (P := Try.prog) (w.alloc (.cells #[.string y] 9)) B 22 o.type 9 i0 (.string ByteArray.empty) 1 16 Try.underlying22 hi hz0 hz1 hz2 rfl (by decide) v l.length (l.map .string) (World.ownsRow.alloc hown _) ⟨w.heap.size, 0, none⟩ 1 1 [.string y] rfl
    (cell_one_new _ _ _) (by intro u hu; simp at hu; subst hu; rfl) (by unfold maxLen; omega) (by omega) (by simp; omega)
  unfold Oper.wp
  simp [execOp, ho, resolve, invoke, builtin, hs, hx, hrun, Result.andThen]
  refine h v' w' ?_ ?_
  · unfold OwnT
    simpa using r1
  · refine ((Below.refl B w).alloc hB _).grown r2 (by simp; omega) fun k hk => ?_
    exact (World.ownsRow.lt hown k hk).1
end Go.Proofs.Ytpglcbidfghfkaa

/-
  Rows of texts appended to beside a struct: what is left as it was; append(row, more...) as a step of a region that draws its order.
-/
namespace Go.Proofs.Ytpglcbidfghfkaa
open Go.RowKit Go.Lib
set_option linter.unusedVariables false

/-- A block of another type is no row's own. -/
theorem OwnT.other {w : World} {B p : Nat} {v : Value} {l : List ByteArray} {cs : Array Value} {t : TypeId} {fz : Nat × Nat} (h : OwnT w B v l) (hp : w.heap[p]? = some (.cells cs t fz)) (ht : t ≠ 9) : some p ≠ v.ownBlock := by
  intro e
  rcases h with ⟨_, ⟨rfl, _⟩ | ⟨g, cap, cur, rfl, _, hg, _⟩⟩
  · simp [Value.ownBlock] at e
  · have e' : p = g := by simpa [Value.ownBlock] using e
    rw [e', hg] at hp
    simp at hp
    exact ht hp.2.1.symm
theorem OwnT.setOther {w : World} {B p i : Nat} {v u : Value} {l : List ByteArray} {cs : Array Value} {t : TypeId} {fz : Nat × Nat} (h : OwnT w B v l) (hp : w.heap[p]? = some (.cells cs t fz)) (ht : t ≠ 9) : OwnT (w.setCell ⟨p, i, none⟩ u) B v l := by
  have hne := h.other hp ht
  rcases h with ⟨h1, ⟨rfl, h2⟩ | ⟨g, cap, cur, rfl, hB, hg, hnc, hcc, hcs, h5⟩⟩
  · exact ⟨h1, .inl ⟨rfl, h2⟩⟩
  · exact ⟨h1, .inr ⟨g, cap, cur, rfl, hB, (Below.heap_setCell _ _ _ _ (by intro e; exact hne (by simp [Value.ownBlock, e]))).trans hg, hnc, hcc, hcs, h5⟩⟩

/-- 'append(row, t)', row the call's own: all other blocks stay. -/
theorem wp_app_textG {w : World} {ops : Array Oper} {rest : List Oper} {o : Oper} {a : Act} {Q : Exit → Act → World → Prop} (hgd : o.guard = none) (s x : Operand)
    (ho : o.op = .call { callee := .builtin .append, args := #[s, x], argTypes := #[22, 22] }) (B : Nat) (v : Value) (l : List ByteArray) (hs : a.eval s = v) (hown : OwnT w B v l) (t : ByteArray)
    (hx : a.eval x = .slice (some ⟨w.heap.size, 0, none⟩) 1 1) (hl : l.length ≤ 1048576) (hB : B ≤ w.heap.size)
    (h : ∀ v' w', OwnT w' B v' (l ++ [t]) → Below B w w' → (∀ p, p < w.heap.size → some p ≠ v.ownBlock → w'.heap[p]? = w.heap[p]?) → wpList Try.prog ops Q rest (a.put o.dst v') w') : wpList Try.prog ops Q (o :: rest) a (w.alloc (.cells #[.string t] 9)) := by
  obtain ⟨i0, hi, hz0, hz1, hz2⟩ := info_parts infoText
  refine wpList_append_own _ hgd s x 22 ho B 9 i0 (.string ByteArray.empty) 1 16 Try.underlying22 hi hz0 hz1 hz2 rfl (by decide) v l.length (l.map .string) hs (World.ownsRow.alloc hown _) ⟨w.heap.size, 0, none⟩ 1 1 [.string t] hx rfl
    (cell_one_new _ _ _) (by intro u hu; simp at hu; subst hu; rfl) (by unfold maxLen; omega) (by omega) (by simp; omega) ?_
  intro v' w' h1 h2 _
  refine h v' w' ?_ ?_ ?_
  · unfold OwnT
    simpa using h1
  · refine ((Below.refl B w).alloc hB _).grown h2 (by simp; omega) fun k hk => ?_
    exact (World.ownsRow.lt hown k hk).1
  · intro p hp hne
    exact (h2.block p (by simp; omega) hne).trans (heap_alloc_old w _ hp)

/-- 'append(row, more...)' as one step of a region that draws, row the call's own. -/
theorem step_app_texts {w : World} {ops : Array Oper} {o : Oper} {a : Act} {K : Act → World → Prop} {Q : Exit → Act → World → Prop} {E : Prop} (hg : o.guard = none) (s x : Operand)
    (ho : o.op = .call { callee := .builtin .append, args := #[s, x], argTypes := #[22, 22] }) (B : Nat) (v vx : Value) (l more : List ByteArray) (hs : a.eval s = v) (hown : OwnT w B v l)
    (hx : a.eval x = vx) (hm : Texts w w.heap.size vx more) (hl : l.length ≤ 1048576) (hml : more.length ≤ 1048577) (hB : B ≤ w.heap.size)
    (h : ∀ v' w', OwnT w' B v' (l ++ more) → Below B w w' → (∀ p, p < w.heap.size → some p ≠ v.ownBlock → w'.heap[p]? = w.heap[p]?) → K (a.put o.dst v') w') :
    if Region.wanted o (yielded ops a.tmps) = true then Oper.wp Try.prog o a w K Q else E := by
  have hw : Region.wanted o (yielded ops a.tmps) = true := by simp [Region.wanted, hg]
  rw [if_pos hw]
  obtain ⟨ax, capx, rfl, hc, hcap⟩ := hm
  obtain ⟨i0, hi, hz0, hz1, hz2⟩ := info_parts infoText
  cases ax with
  | none =>
    have h0 : more.length = 0 := by
      rcases hc with h0 | ⟨b, off, h1, _⟩
      · exact h0
      · cases h1
    obtain rfl := List.eq_nil_of_length_eq_zero h0
    have hrun := app_none (c := capx) (ty := o.type) hown
    unfold Oper.wp
    rw [List.length_nil] at hx
    simp [execOp, ho, resolve, invoke, builtin, hs, hx, hrun, Result.andThen]
    exact h _ _ (by rw [List.append_nil]; exact hown) (Below.refl _ _) (fun _ _ _ => rfl)
  | some ad =>
    obtain ⟨v', w', hrun, r1, r2, _⟩ := run_append_own (P := Try.prog) w B 22 o.type 9 i0 (.string ByteArray.empty) 1 16 Try.underlying22 hi hz0 hz1 hz2 rfl (by decide) v l.length (l.map .string) hown ad more.length capx (more.map .string) (by simp)
      (by
        intro j u hu
        rw [List.getElem?_map] at hu
        obtain ⟨t, ht, rfl⟩ := Option.map_eq_some_iff.1 hu
        obtain ⟨hj, rfl⟩ := List.getElem?_eq_some_iff.1 ht
        rcases hc with h0 | ⟨b, off, h1, hbB, hcell⟩
        · omega
        · obtain rfl := Option.some.inj h1
          have hadd : (⟨b, off, none⟩ : Addr).add j = ⟨b, off + j, none⟩ := by unfold Addr.add; split <;> simp_all
          rw [hadd]
          exact hcell j hj) (by intro u hu; obtain ⟨t, _, rfl⟩ := List.mem_map.1 hu; rfl) (by unfold maxLen; omega) (by omega) hB
    unfold Oper.wp
    simp [execOp, ho, resolve, invoke, builtin, hs, hx, hrun, Result.andThen]
    refine h v' w' ?_ ?_ (fun p hp hne => r2.block p hp hne)
    · unfold OwnT
      simpa using r1
    · refine (Below.refl B w).grown r2 hB fun k hk => ?_
      exact (World.ownsRow.lt hown k hk).1
end Go.Proofs.Ytpglcbidfghfkaa
