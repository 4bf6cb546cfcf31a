/-
  The document's digits of a text.
-/
import Derived.Test.YtcenlgfopmahcaaGreatDoorPkAgrees
import Derived.Test.YtcenlgfopmahcaaGreatDoorPkSpecKeys
import Derived.Test.YtcenlgfopmahcaaGreatDoorPkSpecAll
import Derived.Test.YtcenlgfopmahcaaGreatDoorPkTextRows
import Derived.Deep.DeepCutAuto
import Derived.BigRegion
import Derived.RegionTactic
namespace Go.Proofs.YtcenlgfopmahcaaGreatDoor
open Go.RowKit Go.Lib
set_option linter.unusedVariables false
set_option linter.unusedSimpArgs false

/-- The slice v holds the digits of a text, in a row that lies behind A and ahead of B. -/
def DigRow (w : World) (A B : Nat) (v : Value) (t : ByteArray) : Prop := ∃ g cap, v = .slice (some ⟨g, 0, none⟩) 6 cap ∧ A ≤ g ∧ g < B ∧ ∀ j, j < 6 → w.cell? ⟨g, j, none⟩ = some (.int .i64 (digI t j))
theorem DigRow.below {w w' : World} {A B : Nat} {v : Value} {t : ByteArray} (h : DigRow w A B v t) (hb : Below B w w') : DigRow w' A B v t := by
  obtain ⟨g, cap, hv, hA, hg, hc⟩ := h
  exact ⟨g, cap, hv, hA, hg, fun j hj => (hb.cell (p := ⟨g, j, none⟩) hg).trans (hc j hj)⟩
theorem DigRow.put {w : World} {A B : Nat} {v : Value} {t : ByteArray} (h : DigRow w A B v t) (g i : Nat) (hg : g < A) (u : Value) : DigRow (w.setCell ⟨g, i, none⟩ u) A B v t := by
  obtain ⟨gd, cap, hv, hA, hB, hc⟩ := h
  refine ⟨gd, cap, hv, hA, hB, fun j hj => ?_⟩
  rw [← hc j hj]
  simp only [World.cell?]
  rw [heap_setCell_other _ _ _ _ (by simp; omega)]
theorem own4 {w : World} {g : Nat} {a b c d : Value} (hg : w.heap[g]? = some (.cells #[a, b, c, d] 2 (0, 0))) : w.ownsRow g 2 1 (.slice (some ⟨g, 0, none⟩) 4 4) 4 [a, b, c, d] :=
  ⟨rfl, .inr ⟨g, 4, _, rfl, Nat.le_refl _, hg, Nat.le_refl _, by unfold maxLen; omega, rfl, rfl⟩⟩
theorem four_of {w1 : World} {g : Nat} {a b c d : Value} {t : TypeId} (h : w1.heap[g]? = some (.cells #[a, b, c, d] t (0, 0))) :
    w1.cell? ⟨g, 0, none⟩ = some a ∧ w1.cell? ⟨g, 1, none⟩ = some b ∧ w1.cell? ⟨g, 2, none⟩ = some c ∧ w1.cell? ⟨g, 3, none⟩ = some d := by
  simp [World.cell?, h]

/-- 'append(row, a, b)', row the call's own. -/
theorem wp_app_two {w : World} {ops : Array Oper} {rest : List Oper} {o : Oper} {a : Act} {Q : Exit → Act → World → Prop} (hgd : o.guard = none) (s x : Operand)
    (ho : o.op = .call { callee := .builtin .append, args := #[s, x], argTypes := #[95, 95] }) (B : Nat) (v : Value) (l : List Value) (n : Nat) (hs : a.eval s = v) (hown : w.ownsRow B 2 1 v n l) (y0 y1 : Int)
    (hx : a.eval x = .slice (some ⟨w.heap.size, 0, none⟩) 2 2) (hl : n ≤ 100) (hB : B ≤ w.heap.size)
    (h : ∀ v' w', w'.ownsRow B 2 1 v' (n + 2) (l ++ [.int .i64 y0, .int .i64 y1]) → Below B w w' → wpList Tryz.prog ops Q rest (a.put o.dst v') w') : wpList Tryz.prog ops Q (o :: rest) a (w.alloc (.cells #[.int .i64 y0, .int .i64 y1] 2)) := by
  obtain ⟨i0, hi, hz0, hz1, hz2⟩ := info_parts infoLong
  refine wpList_append_own _ hgd s x 95 ho B 2 i0 (.int .i64 0) 1 8 Tryz.underlying95 hi hz0 hz1 hz2 rfl (by decide) v n l hs (World.ownsRow.alloc hown _) ⟨w.heap.size, 0, none⟩ 2 2 [.int .i64 y0, .int .i64 y1] hx rfl
    (fun j u hu => ?_) (by intro u hu; simp at hu; rcases hu with rfl | rfl <;> rfl) (by unfold maxLen; omega) (by omega) (by simp; omega) ?_
  · have hadd : (⟨w.heap.size, 0, none⟩ : Addr).add j = ⟨w.heap.size, j, none⟩ := by unfold Addr.add; split <;> simp_all
    rw [hadd, cell_of_row _ _ j _ _ _ (heap_alloc_new w _)]
    simpa using hu
  intro v' w' h1 h2 _
  refine h v' w' h1 ?_
  refine ((Below.refl B w).alloc hB _).grown h2 (by simp; omega) fun k hk => ?_
  exact (World.ownsRow.lt hown k hk).1

set_option maxHeartbeats 1000000 in
set_option maxRecDepth 10000 in
theorem specDigits_any (t : ByteArray) (w : World) (ht : t.size ≤ 20000) :
    Calls Tryz.prog 88 #[.string t] w fun e w' => ∃ v, e = .returned v ∧ DigRow w' w.heap.size w'.heap.size v t ∧ Below w.heap.size w w' := by
  have E := fun w => all_any t w (by omega)
  have HD' : ∀ j, digI t j = digF (byteL (shaB t).data.toList 0) (byteL (shaB t).data.toList 1) j := fun j => rfl
  have hz := shaB_size t
  obtain ⟨hx0, hx1⟩ := byteL_bd (shaB t).data.toList 0
  obtain ⟨hy0, hy1⟩ := byteL_bd (shaB t).data.toList 1
  have hi0 := fun w => index_text (shaB t) 0 0 rfl (by omega) w
  have hi1 := fun w => index_text (shaB t) 1 1 rfl (by omega) w
  generalize byteL (shaB t).data.toList 0 = x at *
  generalize byteL (shaB t).data.toList 1 = y at *
  have HD : Hid (∀ j, digI t j = digF x y j) := HD'
  clear HD'
  have HE : Hid (∀ w, Calls Tryz.prog 53 #[.string t] w fun e w' => e = .returned (.string (shaB t)) ∧ Below w.heap.size w w') := E
  generalize shaB t = D at *
  have q0 : Hid (IntKind.i64.wrap (IntKind.u8.wrap (x.tdiv 16)) = x / 16) := by
    show _ = _
    rw [Int.tdiv_eq_ediv_of_nonneg hx0, IntKind.wrap_u8', IntKind.wrap_i64]; omega
  have q1 : Hid (IntKind.i64.wrap (x.tmod 16) = x % 16) := by
    show _ = _
    rw [Int.tmod_eq_emod_of_nonneg hx0, IntKind.wrap_i64]; omega
  have q2 : Hid (IntKind.i64.wrap (IntKind.u8.wrap (y.tdiv 16)) = y / 16) := by
    show _ = _
    rw [Int.tdiv_eq_ediv_of_nonneg hy0, IntKind.wrap_u8', IntKind.wrap_i64]; omega
  have q3 : Hid (IntKind.i64.wrap (y.tmod 16) = y % 16) := by
    show _ = _
    rw [Int.tmod_eq_emod_of_nonneg hy0, IntKind.wrap_i64]; omega
  clear E hz
  go_enter Tryz.func88, Tryz.ntmps88
  go_wp2_with fail
  refine (HE.out _).mono ?_
  rintro e w1 ⟨rfl, hb1⟩
  have HB : Hid (Below w.heap.size w w1) := hb1
  clear hb1 HE
  go_wp2
  go_cut [4] (fun v wx => v = .slice (some ⟨w1.heap.size, 0, none⟩) 4 4 ∧ wx.heap[w1.heap.size]? = some (.cells #[.int .i64 (x / 16), .int .i64 (x % 16), .int .i64 (y / 16), .int .i64 (y % 16)] 2 (0, 0)) ∧ Below w.heap.size w wx)
  case first J K hJ hK =>
    go_region_held3 (fun w' => True) (trivial) (fail)
    all_goals
      refine hK _ _ (Met.intro (hJ _ _ ?_))
      (repeat apply Exists.intro)
      refine ⟨?rel, rfl⟩
      case rel => exact ⟨rfl, by rw [q0.out, q1.out, q2.out, q3.out]; exact heap_alloc_new w1 _, below_drew' (HB.out.alloc HB.out.size _)⟩
  case rest =>
    obtain ⟨rfl, hg, hb⟩ := hcut
    obtain ⟨c0, c1, c2, c3⟩ := four_of hg
    have HG : Hid (wc.heap[w1.heap.size]? = some (.cells #[.int .i64 (x / 16), .int .i64 (x % 16), .int .i64 (y / 16), .int .i64 (y % 16)] 2 (0, 0)) ∧ Below w.heap.size w wc ∧ w.heap.size ≤ w1.heap.size) := ⟨hg, hb, HB.out.size⟩
    clear hg hb HB q0 q1 q2 q3
    go_wp2
    go_quiet (fail)
    have H3 : Hid ((wc.drewN nq).ownsRow w1.heap.size 2 1 (.slice (some ⟨w1.heap.size, 0, none⟩) 4 4) 4 [.int .i64 (x / 16), .int .i64 (x % 16), .int .i64 (y / 16), .int .i64 (y % 16)] ∧ Below w.heap.size w (wc.drewN nq) ∧ w1.heap.size ≤ (wc.drewN nq).heap.size) := ⟨own4 HG.out.1, below_drewN nq HG.out.2.1, Nat.le_of_lt (Array.getElem?_eq_some_iff.1 HG.out.1).1⟩
    have HS : Hid (w.heap.size ≤ w1.heap.size) := HG.out.2.2
    generalize wc.drewN nq = w3 at *
    clear c0 c1 c2 c3 HG
    have hown := H3.out.1
    have hszw := H3.out.2.2
    go_wp2_with (at_builtin; go_must (refine wp_app_two rfl (.tmp 41) (.tmp 46) rfl w1.heap.size _ _ 4 rfl hown _ _ rfl (by omega) hszw ?_); intro v4 w4 hown4 hb4)
    have H4 : Hid (DigRow w4 w.heap.size w4.heap.size v4 t ∧ Below w.heap.size w w4) := by
      refine ⟨?_, H3.out.2.1.trans (hb4.mono HS.out)⟩
      obtain ⟨_, ⟨_, h0⟩ | ⟨g, cap, cur, rfl, hB, hg, _⟩⟩ := id hown4
      · omega
      · refine ⟨g, cap, rfl, Nat.le_trans HS.out hB, (Array.getElem?_eq_some_iff.1 hg).1, fun j hj => ?_⟩
        rw [World.ownsRow.cellAt hown4 j (by omega), HD.out]
        have : j = 0 ∨ j = 1 ∨ j = 2 ∨ j = 3 ∨ j = 4 ∨ j = 5 := by omega
        rcases this with rfl | rfl | rfl | rfl | rfl | rfl
        · rfl
        · rfl
        · rfl
        · rfl
        · rfl
        · show some (Value.int .i64 ((60 - x / 16 - x % 16 - y / 16 - y) % 16)) = some (Value.int .i64 ((60 - x / 16 - x % 16 - y / 16 - y % 16) % 16))
          have e5 : (60 - x / 16 - x % 16 - y / 16 - y) % 16 = (60 - x / 16 - x % 16 - y / 16 - y % 16) % 16 := by omega
          rw [e5]
    clear hown4 hb4
    go_ret
    exact ⟨_, rfl, H4.out.1, H4.out.2⟩
end Go.Proofs.YtcenlgfopmahcaaGreatDoor
