/-
  The program's charges: made of a fraud, their heads, why they do not hold.
-/
import Derived.Test.YtcenlgfopmahcaaGreatDoorPkSigned
import Derived.Test.YtcenlgfopmahcaaGreatDoorPkImplConf
import Derived.Test.YtcenlgfopmahcaaGreatDoorPkImplTree
import Derived.Deep.RegionWith
import Derived.Deep.RegionHeld3
namespace Go.Proofs.YtcenlgfopmahcaaGreatDoor
open Go.RowKit Go.Lib
set_option linter.unusedVariables false
set_option linter.unusedSimpArgs false

set_option maxHeartbeats 4000000 in
set_option maxRecDepth 10000 in
theorem chargeOf_none (x y : Hd) (a1 b1 a2 b2 : Option Addr) (s1 t1 s2 t2 : Nat) (ae : Option Addr) (ce : Nat) (w : World) :
    Calls Tryz.prog 82 #[.agg #[.string x.log, .int .i64 x.size, .string x.root, .int .i64 x.time, .int .i64 x.k, .slice a1 x.el.length s1, .slice b1 x.pl.length t1, .string y.log, .int .i64 y.size, .string y.root, .int .i64 y.time, .int .i64 y.k, .slice a2 y.el.length s2, .slice b2 y.pl.length t2, .slice ae 0 ce]] w fun e w' => e = .returned (.iface 137 (.agg #[.string x.log, .int .i64 x.size, .string x.root, .int .i64 x.time, .int .i64 x.k, .slice a1 x.el.length s1, .slice b1 x.pl.length t1, .string y.log, .int .i64 y.size, .string y.root, .int .i64 y.time, .int .i64 y.k, .slice a2 y.el.length s2, .slice b2 y.pl.length t2])) ∧ Below w.heap.size w w' := by
  go_enter Tryz.func82, Tryz.ntmps82
  go_wp2
  go_ret
  exact ⟨rfl, (Below.refl _ _).alloc (Nat.le_refl _) _⟩
set_option maxHeartbeats 4000000 in
set_option maxRecDepth 10000 in
theorem chargeOf_some (x y : Hd) (a1 b1 a2 b2 : Option Addr) (s1 t1 s2 t2 : Nat) (ae : Option Addr) (ce n : Nat) (w : World) (hn : n ≠ 0) (hn2 : n ≤ 1048576) :
    Calls Tryz.prog 82 #[.agg #[.string x.log, .int .i64 x.size, .string x.root, .int .i64 x.time, .int .i64 x.k, .slice a1 x.el.length s1, .slice b1 x.pl.length t1, .string y.log, .int .i64 y.size, .string y.root, .int .i64 y.time, .int .i64 y.k, .slice a2 y.el.length s2, .slice b2 y.pl.length t2, .slice ae n ce]] w fun e w' => e = .returned (.iface 140 (.agg #[.string x.log, .int .i64 x.size, .string x.root, .int .i64 x.time, .int .i64 x.k, .slice a1 x.el.length s1, .slice b1 x.pl.length t1, .string y.log, .int .i64 y.size, .string y.root, .int .i64 y.time, .int .i64 y.k, .slice a2 y.el.length s2, .slice b2 y.pl.length t2, .slice ae n ce])) ∧ Below w.heap.size w w' := by
  have hnI : ¬ (n : Int) = 0 := by omega
  have hnB : ((n : Int) == 0) = false := by simpa using hn
  go_enter Tryz.func82, Tryz.ntmps82
  go_wp2
  go_ret
  exact ⟨rfl, (Below.refl _ _).alloc (Nat.le_refl _) _⟩
set_option maxHeartbeats 4000000 in
set_option maxRecDepth 10000 in
theorem splitHeads_any (x y : Hd) (a1 b1 a2 b2 : Option Addr) (s1 t1 s2 t2 : Nat) (w : World) :
    Calls Tryz.prog 183 #[.agg #[.string x.log, .int .i64 x.size, .string x.root, .int .i64 x.time, .int .i64 x.k, .slice a1 x.el.length s1, .slice b1 x.pl.length t1, .string y.log, .int .i64 y.size, .string y.root, .int .i64 y.time, .int .i64 y.k, .slice a2 y.el.length s2, .slice b2 y.pl.length t2]] w fun e w' => e = .returned (.tuple #[.agg #[.string x.log, .int .i64 x.size, .string x.root, .int .i64 x.time, .int .i64 x.k, .slice a1 x.el.length s1, .slice b1 x.pl.length t1], .agg #[.string y.log, .int .i64 y.size, .string y.root, .int .i64 y.time, .int .i64 y.k, .slice a2 y.el.length s2, .slice b2 y.pl.length t2]]) ∧ Below w.heap.size w w' := by
  go_enter Tryz.func183, Tryz.ntmps183
  go_wp2_with fail
  go_region
  all_goals
    go_wp2
    refine bodyPost_ret (v := .tuple #[.agg #[.string x.log, .int .i64 x.size, .string x.root, .int .i64 x.time, .int .i64 x.k, .slice a1 x.el.length s1, .slice b1 x.pl.length t1], .agg #[.string y.log, .int .i64 y.size, .string y.root, .int .i64 y.time, .int .i64 y.k, .slice a2 y.el.length s2, .slice b2 y.pl.length t2]]) (by simp [results, Tryz.results183, go_sem]) rfl ⟨rfl, ?_⟩
    (repeat (first | refine Below.setCell ?_ (by simp <;> omega) _ | refine below_drew' ?_ | refine Below.alloc' ?_ (Nat.le_refl _) _ | exact Below.refl _ _))
set_option maxHeartbeats 4000000 in
set_option maxRecDepth 10000 in
theorem rewriteHeads_any (x y : Hd) (a1 b1 a2 b2 : Option Addr) (s1 t1 s2 t2 : Nat) (ae : Option Addr) (ce n : Nat) (w : World) :
    Calls Tryz.prog 184 #[.agg #[.string x.log, .int .i64 x.size, .string x.root, .int .i64 x.time, .int .i64 x.k, .slice a1 x.el.length s1, .slice b1 x.pl.length t1, .string y.log, .int .i64 y.size, .string y.root, .int .i64 y.time, .int .i64 y.k, .slice a2 y.el.length s2, .slice b2 y.pl.length t2, .slice ae n ce]] w fun e w' => e = .returned (.tuple #[.agg #[.string x.log, .int .i64 x.size, .string x.root, .int .i64 x.time, .int .i64 x.k, .slice a1 x.el.length s1, .slice b1 x.pl.length t1], .agg #[.string y.log, .int .i64 y.size, .string y.root, .int .i64 y.time, .int .i64 y.k, .slice a2 y.el.length s2, .slice b2 y.pl.length t2]]) ∧ Below w.heap.size w w' := by
  go_enter Tryz.func184, Tryz.ntmps184
  go_wp2_with fail
  go_region
  all_goals
    go_wp2
    refine bodyPost_ret (v := .tuple #[.agg #[.string x.log, .int .i64 x.size, .string x.root, .int .i64 x.time, .int .i64 x.k, .slice a1 x.el.length s1, .slice b1 x.pl.length t1], .agg #[.string y.log, .int .i64 y.size, .string y.root, .int .i64 y.time, .int .i64 y.k, .slice a2 y.el.length s2, .slice b2 y.pl.length t2]]) (by simp [results, Tryz.results184, go_sem]) rfl ⟨rfl, ?_⟩
    (repeat (first | refine Below.setCell ?_ (by simp <;> omega) _ | refine below_drew' ?_ | refine Below.alloc' ?_ (Nat.le_refl _) _ | exact Below.refl _ _))

/-- No error, if the charge holds; else a reason. -/
def Why (b : Bool) (e : Ending) : Prop := (b = true ∧ e = .returned .nilIface) ∨ (b = false ∧ ∃ s, e = .returned (.iface 135 (.string s)))
set_option maxHeartbeats 4000000 in
set_option maxRecDepth 10000 in
theorem whySplit_any (x y : Hd) (a1 b1 a2 b2 : Option Addr) (s1 t1 s2 t2 : Nat) (w : World) (hx : x.In (.slice a1 x.el.length s1) (.slice b1 x.pl.length t1) w w.heap.size) (hy : y.In (.slice a2 y.el.length s2) (.slice b2 y.pl.length t2) w w.heap.size) (hlx : x.Lim) (hly : y.Lim) :
    Calls Tryz.prog 101 #[.agg #[.string x.log, .int .i64 x.size, .string x.root, .int .i64 x.time, .int .i64 x.k, .slice a1 x.el.length s1, .slice b1 x.pl.length t1, .string y.log, .int .i64 y.size, .string y.root, .int .i64 y.time, .int .i64 y.k, .slice a2 y.el.length s2, .slice b2 y.pl.length t2]] w fun e w' => Why (twoB x y) e ∧ Below w.heap.size w w' := by
  have hbW : Below w.heap.size w (w.alloc (.cells #[.string x.log, .int .i64 x.size, .string x.root, .int .i64 x.time, .int .i64 x.k, .slice a1 x.el.length s1, .slice b1 x.pl.length t1, .string y.log, .int .i64 y.size, .string y.root, .int .i64 y.time, .int .i64 y.k, .slice a2 y.el.length s2, .slice b2 y.pl.length t2] 137)) := (Below.refl _ _).alloc (Nat.le_refl _) _
  have E1 : Hid (Calls Tryz.prog 121 #[.agg #[.string x.log, .int .i64 x.size, .string x.root, .int .i64 x.time, .int .i64 x.k, .slice a1 x.el.length s1, .slice b1 x.pl.length t1], .agg #[.string y.log, .int .i64 y.size, .string y.root, .int .i64 y.time, .int .i64 y.k, .slice a2 y.el.length s2, .slice b2 y.pl.length t2]] (w.alloc (.cells #[.string x.log, .int .i64 x.size, .string x.root, .int .i64 x.time, .int .i64 x.k, .slice a1 x.el.length s1, .slice b1 x.pl.length t1, .string y.log, .int .i64 y.size, .string y.root, .int .i64 y.time, .int .i64 y.k, .slice a2 y.el.length s2, .slice b2 y.pl.length t2] 137)) fun e w' => e = .returned (.bool (twoB x y)) ∧ Below w.heap.size w w') := (implConf_any x.log x.root x.size x.time x.k _ _ x.el x.pl y.log y.root y.size y.time y.k _ _ y.el y.pl _ (hx.on hbW).1 (hx.on hbW).2 hlx.2.2.1 hlx.2.2.2 hlx.1 hlx.2.1 (hy.on hbW).1 (hy.on hbW).2 hly.2.2.1 hly.2.2.2 hly.1 hly.2.1).mono fun e w' h => ⟨h.1, hbW.trans (h.2.mono hbW.size)⟩
  clear hx hy hlx hly hbW
  generalize twoB x y = b at *
  go_enter Tryz.func101, Tryz.ntmps101
  go_wp2_with fail
  refine E1.out.mono ?_
  rintro e w1 ⟨rfl, hb1⟩
  cases b with
  | false =>
    go_wp2
    go_ret
    exact ⟨.inr ⟨rfl, _, rfl⟩, hb1⟩
  | true =>
    go_wp2
    go_ret
    exact ⟨.inl ⟨rfl, rfl⟩, hb1⟩
end Go.Proofs.YtcenlgfopmahcaaGreatDoor

/-
  Why a rewrite does not hold.
-/
namespace Go.Proofs.YtcenlgfopmahcaaGreatDoor
open Go.RowKit Go.Lib
set_option linter.unusedVariables false
set_option linter.unusedSimpArgs false

set_option maxHeartbeats 4000000 in
set_option maxRecDepth 10000 in
theorem whyRewrite_any (x y : Hd) (a1 b1 a2 b2 : Option Addr) (s1 t1 s2 t2 : Nat) (ae : Option Addr) (ce : Nat) (l : List ByteArray) (w : World) (hx : 0 ≤ x.size) (h3 : Texts w w.heap.size (.slice ae l.length ce) l) (hll : l.length ≤ 1048576) (hK : Keys w) :
    Calls Tryz.prog 102 #[.agg #[.string x.log, .int .i64 x.size, .string x.root, .int .i64 x.time, .int .i64 x.k, .slice a1 x.el.length s1, .slice b1 x.pl.length t1, .string y.log, .int .i64 y.size, .string y.root, .int .i64 y.time, .int .i64 y.k, .slice a2 y.el.length s2, .slice b2 y.pl.length t2, .slice ae l.length ce]] w fun e w' => Why (rewB x y l) e ∧ Below w.heap.size w w' := by
  obtain ⟨W, hW⟩ : ∃ W, W = w.alloc (.cells #[.string x.log, .int .i64 x.size, .string x.root, .int .i64 x.time, .int .i64 x.k, .slice a1 x.el.length s1, .slice b1 x.pl.length t1, .string y.log, .int .i64 y.size, .string y.root, .int .i64 y.time, .int .i64 y.k, .slice a2 y.el.length s2, .slice b2 y.pl.length t2, .slice ae l.length ce] 140) := ⟨_, rfl⟩
  have hbW : Below w.heap.size w W := by rw [hW]; exact (Below.refl _ _).alloc (Nat.le_refl _) _
  have hgW : W.heap[w.heap.size]? = some (.cells #[.string x.log, .int .i64 x.size, .string x.root, .int .i64 x.time, .int .i64 x.k, .slice a1 x.el.length s1, .slice b1 x.pl.length t1, .string y.log, .int .i64 y.size, .string y.root, .int .i64 y.time, .int .i64 y.k, .slice a2 y.el.length s2, .slice b2 y.pl.length t2, .slice ae l.length ce] 140 (0, 0)) := by rw [hW]; exact heap_alloc_new w _
  have HW : Hid (W = w.alloc (.cells #[.string x.log, .int .i64 x.size, .string x.root, .int .i64 x.time, .int .i64 x.k, .slice a1 x.el.length s1, .slice b1 x.pl.length t1, .string y.log, .int .i64 y.size, .string y.root, .int .i64 y.time, .int .i64 y.k, .slice a2 y.el.length s2, .slice b2 y.pl.length t2, .slice ae l.length ce] 140)) := hW
  have H0 : Hid (Below w.heap.size w W) := hbW
  have HB0 : Hid (Below W.heap.size W W) := Below.refl _ _
  have HC : Hid (∀ W', Below W.heap.size W W' → (W'.cell? ⟨w.heap.size, 0, none⟩ = some (.string x.log) ∧ W'.cell? ⟨w.heap.size, 1, none⟩ = some (.int .i64 x.size) ∧ W'.cell? ⟨w.heap.size, 2, none⟩ = some (.string x.root) ∧ W'.cell? ⟨w.heap.size, 3, none⟩ = some (.int .i64 x.time) ∧ W'.cell? ⟨w.heap.size, 4, none⟩ = some (.int .i64 x.k) ∧ W'.cell? ⟨w.heap.size, 5, none⟩ = some (.slice a1 x.el.length s1) ∧ W'.cell? ⟨w.heap.size, 6, none⟩ = some (.slice b1 x.pl.length t1) ∧ W'.cell? ⟨w.heap.size, 7, none⟩ = some (.string y.log) ∧ W'.cell? ⟨w.heap.size, 8, none⟩ = some (.int .i64 y.size) ∧ W'.cell? ⟨w.heap.size, 9, none⟩ = some (.string y.root) ∧ W'.cell? ⟨w.heap.size, 10, none⟩ = some (.int .i64 y.time) ∧ W'.cell? ⟨w.heap.size, 11, none⟩ = some (.int .i64 y.k) ∧ W'.cell? ⟨w.heap.size, 12, none⟩ = some (.slice a2 y.el.length s2) ∧ W'.cell? ⟨w.heap.size, 13, none⟩ = some (.slice b2 y.pl.length t2) ∧ W'.cell? ⟨w.heap.size, 14, none⟩ = some (.slice ae l.length ce)) ∧ (W'.drew.cell? ⟨w.heap.size, 0, none⟩ = some (.string x.log) ∧ W'.drew.cell? ⟨w.heap.size, 1, none⟩ = some (.int .i64 x.size) ∧ W'.drew.cell? ⟨w.heap.size, 2, none⟩ = some (.string x.root) ∧ W'.drew.cell? ⟨w.heap.size, 3, none⟩ = some (.int .i64 x.time) ∧ W'.drew.cell? ⟨w.heap.size, 4, none⟩ = some (.int .i64 x.k) ∧ W'.drew.cell? ⟨w.heap.size, 5, none⟩ = some (.slice a1 x.el.length s1) ∧ W'.drew.cell? ⟨w.heap.size, 6, none⟩ = some (.slice b1 x.pl.length t1) ∧ W'.drew.cell? ⟨w.heap.size, 7, none⟩ = some (.string y.log) ∧ W'.drew.cell? ⟨w.heap.size, 8, none⟩ = some (.int .i64 y.size) ∧ W'.drew.cell? ⟨w.heap.size, 9, none⟩ = some (.string y.root) ∧ W'.drew.cell? ⟨w.heap.size, 10, none⟩ = some (.int .i64 y.time) ∧ W'.drew.cell? ⟨w.heap.size, 11, none⟩ = some (.int .i64 y.k) ∧ W'.drew.cell? ⟨w.heap.size, 12, none⟩ = some (.slice a2 y.el.length s2) ∧ W'.drew.cell? ⟨w.heap.size, 13, none⟩ = some (.slice b2 y.pl.length t2) ∧ W'.drew.cell? ⟨w.heap.size, 14, none⟩ = some (.slice ae l.length ce))) := fun W' hb => by
    have c := row_cells hb (Array.getElem?_eq_some_iff.1 hgW).1 hgW
    exact ⟨⟨c 0 _ rfl, c 1 _ rfl, c 2 _ rfl, c 3 _ rfl, c 4 _ rfl, c 5 _ rfl, c 6 _ rfl, c 7 _ rfl, c 8 _ rfl, c 9 _ rfl, c 10 _ rfl, c 11 _ rfl, c 12 _ rfl, c 13 _ rfl, c 14 _ rfl⟩, c 0 _ rfl, c 1 _ rfl, c 2 _ rfl, c 3 _ rfl, c 4 _ rfl, c 5 _ rfl, c 6 _ rfl, c 7 _ rfl, c 8 _ rfl, c 9 _ rfl, c 10 _ rfl, c 11 _ rfl, c 12 _ rfl, c 13 _ rfl, c 14 _ rfl⟩
  have HS : Hid (∀ X, Below W.heap.size W X → (X.cell? ⟨w.heap.size, 0, none⟩ = some (.string x.log) ∧ X.cell? ⟨w.heap.size, 1, none⟩ = some (.int .i64 x.size) ∧ X.cell? ⟨w.heap.size, 2, none⟩ = some (.string x.root) ∧ X.cell? ⟨w.heap.size, 3, none⟩ = some (.int .i64 x.time) ∧ X.cell? ⟨w.heap.size, 4, none⟩ = some (.int .i64 x.k) ∧ X.cell? ⟨w.heap.size, 5, none⟩ = some (.slice a1 x.el.length s1) ∧ X.cell? ⟨w.heap.size, 6, none⟩ = some (.slice b1 x.pl.length t1) ∧ X.cell? ⟨w.heap.size, 7, none⟩ = some (.string y.log) ∧ X.cell? ⟨w.heap.size, 8, none⟩ = some (.int .i64 y.size) ∧ X.cell? ⟨w.heap.size, 9, none⟩ = some (.string y.root) ∧ X.cell? ⟨w.heap.size, 10, none⟩ = some (.int .i64 y.time) ∧ X.cell? ⟨w.heap.size, 11, none⟩ = some (.int .i64 y.k) ∧ X.cell? ⟨w.heap.size, 12, none⟩ = some (.slice a2 y.el.length s2) ∧ X.cell? ⟨w.heap.size, 13, none⟩ = some (.slice b2 y.pl.length t2) ∧ X.cell? ⟨w.heap.size, 14, none⟩ = some (.slice ae l.length ce))) := fun X hb => (HC.out X hb).1
  have G1 : Hid (Calls Tryz.prog 76 #[.slice ae l.length ce] W fun e w' => e = .returned (.bool (rightB l)) ∧ w' = W) := entriesRight_any _ l W W.heap.size (h3.on hbW) hll
  have hKW : Keys W := hK.below hbW hK.lt
  have HT : Hid (rightB l = true → ∀ (v : Value) (t : List ByteArray) W', Below W.heap.size W W' → Texts W' W'.heap.size v t → (∀ u ∈ t, u ∈ l) → t.length ≤ l.length → Calls Tryz.prog 95 #[v] W' fun e w' => e = .returned (.string (treeB t)) ∧ Below W.heap.size W w') := fun hr v t W' hb ht hs hle => (treeOf_any v t W' ht (by omega) (fun j hj => by
    obtain ⟨i, hi, e⟩ := List.getElem_of_mem (hs t[j] (List.getElem_mem hj))
    rw [← e]
    exact rightB_at hr hi) (hKW.below hb hKW.lt)).mono fun e w' h => ⟨h.1, hb.trans (h.2.mono hb.size)⟩
  have HE : Hid (∀ W', Below W.heap.size W W' → Texts W' W'.heap.size (.slice ae l.length ce) l) := fun W' hb => (h3.on hbW).on hb
  obtain ⟨⟨c0, c1, c2, c3, c4, c5, c6, c7, c8, c9, c10, c11, c12, c13, c14⟩, _⟩ := HC.out W HB0.out
  have step : ∀ (x : Bool), x = true ∨ x = false := fun x => by cases x <;> simp
  clear hW hbW hgW h3 hK hKW
  unfold rewB
  generalize hre : rightB l = re
  rw [hre] at G1
  cases re with
  | false =>
    clear HT
    go_enter Tryz.func102, Tryz.ntmps102
    go_wp2_with fail
    rw [← HW.out]
    refine G1.out.mono ?_
    rintro e w1 ⟨rfl, rfl⟩
    go_wp2
    go_ret
    exact ⟨.inr ⟨rfl, _, rfl⟩, H0.out⟩
  | true =>
    have HT' := HT.out hre
    clear HT
    have HT : Hid _ := HT'
    clear HT' hre
    by_cases hsz : (l.length : Int) = y.size
    · have hszB : ((l.length : Int) == y.size) = true := by simpa using hsz
      rw [hszB]
      by_cases hlt : x.size < y.size
      · rw [decide_eq_true hlt]
        have hge : ¬ y.size ≤ x.size := by omega
        obtain ⟨m, hm⟩ := Int.eq_ofNat_of_zero_le hx
        have hml : m ≤ l.length := by omega
        have htk : x.size.toNat = m := by omega
        rw [htk]
        have H1 : Hid (∀ W', Below W.heap.size W W' → Calls Tryz.prog 95 #[.slice ae l.length ce] W' fun e w' => e = .returned (.string (treeB l)) ∧ Below W.heap.size W w') := fun W' hb => HT.out _ l W' hb (HE.out W' hb) (fun _ h => h) (Nat.le_refl _)
        obtain ⟨v1, hv1, hv2⟩ := slice_h (HE.out W HB0.out) m hml x.size (by omega)
        have H2 : Hid (∀ W', Below W.heap.size W W' → Calls Tryz.prog 95 #[v1] W' fun e w' => e = .returned (.string (treeB (l.take m))) ∧ Below W.heap.size W w') := fun W' hb => HT.out _ _ W' hb (hv2.on hb) (fun _ h => List.mem_of_mem_take h) (by rw [List.length_take]; omega)
        clear HT HE htk hm hml hv2
        generalize treeB l = tr at *
        generalize treeB (l.take m) = tm at *
        rcases step (tr.toList == y.root.toList) with q1 | q1
        · rcases step (tm.toList == x.root.toList) with q2 | q2 <;> rw [q1, q2]
          all_goals
            go_enter Tryz.func102, Tryz.ntmps102
            go_wp2_with fail
            rw [← HW.out]
            refine G1.out.mono ?_
            rintro e w1 ⟨rfl, hw1⟩
            obtain rfl : W = w1 := hw1.symm
            go_wp2_with fail
            go_region_held3 (fun X => (X.cell? ⟨w.heap.size, 0, none⟩ = some (.string x.log) ∧ X.cell? ⟨w.heap.size, 1, none⟩ = some (.int .i64 x.size) ∧ X.cell? ⟨w.heap.size, 2, none⟩ = some (.string x.root) ∧ X.cell? ⟨w.heap.size, 3, none⟩ = some (.int .i64 x.time) ∧ X.cell? ⟨w.heap.size, 4, none⟩ = some (.int .i64 x.k) ∧ X.cell? ⟨w.heap.size, 5, none⟩ = some (.slice a1 x.el.length s1) ∧ X.cell? ⟨w.heap.size, 6, none⟩ = some (.slice b1 x.pl.length t1) ∧ X.cell? ⟨w.heap.size, 7, none⟩ = some (.string y.log) ∧ X.cell? ⟨w.heap.size, 8, none⟩ = some (.int .i64 y.size) ∧ X.cell? ⟨w.heap.size, 9, none⟩ = some (.string y.root) ∧ X.cell? ⟨w.heap.size, 10, none⟩ = some (.int .i64 y.time) ∧ X.cell? ⟨w.heap.size, 11, none⟩ = some (.int .i64 y.k) ∧ X.cell? ⟨w.heap.size, 12, none⟩ = some (.slice a2 y.el.length s2) ∧ X.cell? ⟨w.heap.size, 13, none⟩ = some (.slice b2 y.pl.length t2) ∧ X.cell? ⟨w.heap.size, 14, none⟩ = some (.slice ae l.length ce))) (((refine HS.out _ ?_); (repeat (first | exact HA1.out | exact HB0.out | refine below_drew' ?_))))
              ((go_at_call 95; (with_reducible refine (H1.out _ ?_).mono ?_); (repeat (first | exact HB0.out | refine below_drew' ?_)); rintro e wa ⟨rfl, hia⟩; have HA1 : Hid (Below W.heap.size W wa) := hia; clear hia))
            all_goals
              clear c0 c1 c2 c3 c4 c5 c6 c7 c8 c9 c10 c11 c12 c13 c14
              obtain ⟨⟨c0, c1, c2, c3, c4, c5, c6, c7, c8, c9, c10, c11, c12, c13, c14⟩, ⟨d0, d1, d2, d3, d4, d5, d6, d7, d8, d9, d10, d11, d12, d13, d14⟩⟩ := HC.out _ HA1.out
              go_wp2_with fail
              go_region_held3 (fun X => (X.cell? ⟨w.heap.size, 0, none⟩ = some (.string x.log) ∧ X.cell? ⟨w.heap.size, 1, none⟩ = some (.int .i64 x.size) ∧ X.cell? ⟨w.heap.size, 2, none⟩ = some (.string x.root) ∧ X.cell? ⟨w.heap.size, 3, none⟩ = some (.int .i64 x.time) ∧ X.cell? ⟨w.heap.size, 4, none⟩ = some (.int .i64 x.k) ∧ X.cell? ⟨w.heap.size, 5, none⟩ = some (.slice a1 x.el.length s1) ∧ X.cell? ⟨w.heap.size, 6, none⟩ = some (.slice b1 x.pl.length t1) ∧ X.cell? ⟨w.heap.size, 7, none⟩ = some (.string y.log) ∧ X.cell? ⟨w.heap.size, 8, none⟩ = some (.int .i64 y.size) ∧ X.cell? ⟨w.heap.size, 9, none⟩ = some (.string y.root) ∧ X.cell? ⟨w.heap.size, 10, none⟩ = some (.int .i64 y.time) ∧ X.cell? ⟨w.heap.size, 11, none⟩ = some (.int .i64 y.k) ∧ X.cell? ⟨w.heap.size, 12, none⟩ = some (.slice a2 y.el.length s2) ∧ X.cell? ⟨w.heap.size, 13, none⟩ = some (.slice b2 y.pl.length t2) ∧ X.cell? ⟨w.heap.size, 14, none⟩ = some (.slice ae l.length ce))) (((refine HS.out _ ?_); (repeat (first | exact HA2.out | exact HA1.out | refine below_drew' ?_))))
                ((go_at_call 95; (with_reducible refine (H2.out _ ?_).mono ?_); (repeat (first | exact HA1.out | refine below_drew' ?_)); rintro e wb ⟨rfl, hib⟩; have HA2 : Hid (Below W.heap.size W wb) := hib; clear hib))
              all_goals
                go_wp2
                go_ret
                first | exact ⟨.inr ⟨rfl, _, rfl⟩, H0.out.trans (HA2.out.mono H0.out.size)⟩ | exact ⟨.inl ⟨rfl, rfl⟩, H0.out.trans (HA2.out.mono H0.out.size)⟩
        · rw [q1]
          go_enter Tryz.func102, Tryz.ntmps102
          go_wp2_with fail
          rw [← HW.out]
          refine G1.out.mono ?_
          rintro e w1 ⟨rfl, hw1⟩
          obtain rfl : W = w1 := hw1.symm
          go_wp2_with fail
          go_region_held3 (fun X => (X.cell? ⟨w.heap.size, 0, none⟩ = some (.string x.log) ∧ X.cell? ⟨w.heap.size, 1, none⟩ = some (.int .i64 x.size) ∧ X.cell? ⟨w.heap.size, 2, none⟩ = some (.string x.root) ∧ X.cell? ⟨w.heap.size, 3, none⟩ = some (.int .i64 x.time) ∧ X.cell? ⟨w.heap.size, 4, none⟩ = some (.int .i64 x.k) ∧ X.cell? ⟨w.heap.size, 5, none⟩ = some (.slice a1 x.el.length s1) ∧ X.cell? ⟨w.heap.size, 6, none⟩ = some (.slice b1 x.pl.length t1) ∧ X.cell? ⟨w.heap.size, 7, none⟩ = some (.string y.log) ∧ X.cell? ⟨w.heap.size, 8, none⟩ = some (.int .i64 y.size) ∧ X.cell? ⟨w.heap.size, 9, none⟩ = some (.string y.root) ∧ X.cell? ⟨w.heap.size, 10, none⟩ = some (.int .i64 y.time) ∧ X.cell? ⟨w.heap.size, 11, none⟩ = some (.int .i64 y.k) ∧ X.cell? ⟨w.heap.size, 12, none⟩ = some (.slice a2 y.el.length s2) ∧ X.cell? ⟨w.heap.size, 13, none⟩ = some (.slice b2 y.pl.length t2) ∧ X.cell? ⟨w.heap.size, 14, none⟩ = some (.slice ae l.length ce))) (((refine HS.out _ ?_); (repeat (first | exact HA1.out | exact HB0.out | refine below_drew' ?_))))
            ((go_at_call 95; (with_reducible refine (H1.out _ ?_).mono ?_); (repeat (first | exact HB0.out | refine below_drew' ?_)); rintro e wa ⟨rfl, hia⟩; have HA1 : Hid (Below W.heap.size W wa) := hia; clear hia))
          all_goals
            go_wp2
            go_ret
            exact ⟨.inr ⟨rfl, _, rfl⟩, H0.out.trans (HA1.out.mono H0.out.size)⟩
      · rw [decide_eq_false hlt]
        have hge : y.size ≤ x.size := by omega
        clear HT HE
        generalize l.length = n at *
        go_enter Tryz.func102, Tryz.ntmps102
        go_wp2_with fail
        rw [← HW.out]
        refine G1.out.mono ?_
        rintro e w1 ⟨rfl, hw1⟩
        obtain rfl : W = w1 := hw1.symm
        go_wp2
        go_ret
        exact ⟨.inr ⟨by simp, _, rfl⟩, H0.out⟩
    · have hszB : ((l.length : Int) == y.size) = false := by simpa using hsz
      rw [hszB]
      clear HT HE
      generalize l.length = n at *
      go_enter Tryz.func102, Tryz.ntmps102
      go_wp2_with fail
      rw [← HW.out]
      refine G1.out.mono ?_
      rintro e w1 ⟨rfl, hw1⟩
      obtain rfl : W = w1 := hw1.symm
      go_wp2
      go_ret
      exact ⟨.inr ⟨by simp, _, rfl⟩, H0.out⟩

end Go.Proofs.YtcenlgfopmahcaaGreatDoor
