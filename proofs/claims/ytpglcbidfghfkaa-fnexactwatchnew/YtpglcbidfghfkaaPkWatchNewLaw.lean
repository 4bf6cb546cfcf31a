/-
  The walk of the exact law of WatchNew.
-/
import Derived.Test.YtpglcbidfghfkaaPkWatchLaws
import Derived.Test.YtpglcbidfghfkaaPkWatchNew
namespace Go.Proofs.Ytpglcbidfghfkaa
open Go.RowKit Go.Lib
set_option linter.unusedVariables false
set_option linter.unusedSimpArgs false

theorem Wt.In.below {t : Wt} {v0 v1 v2 v3 v4 v5 v6 v7 : Value} {w w' : World} {B : Nat} (h : t.In v0 v1 v2 v3 v4 v5 v6 v7 w B) (hb : Below B w w') : t.In v0 v1 v2 v3 v4 v5 v6 v7 w' B := ⟨h.1.below hb, h.2.1.below hb, h.2.2.1.below hb, h.2.2.2.1.below hb, h.2.2.2.2.below hb⟩
/-- Behind the calls: the document's answer in block b5, the program's in block b6, of whose rows PO tells. -/
def LMid (w : World) (b5 b6 n0 n9 : Nat) (R5 R6 : Array Value) (PO : World → Prop) (X : World) : Prop :=
  (Below w.heap.size w X ∧ w.heap.size ≤ b5 ∧ b5 < n0 ∧ n0 ≤ n9 ∧ n9 ≤ b6 ∧ b6 < X.heap.size) ∧ X.heap[b5]? = some (.cells R5 37 (0, 0)) ∧ X.heap[b6]? = some (.cells R6 37 (0, 0)) ∧ PO X
theorem LMid.below {w : World} {b5 b6 n0 n9 : Nat} {R5 R6 : Array Value} {PO : World → Prop} {X Y : World} (h : LMid w b5 b6 n0 n9 R5 R6 PO X) (hP : ∀ X Y, PO X → Below X.heap.size X Y → PO Y) (hb : Below X.heap.size X Y) : LMid w b5 b6 n0 n9 R5 R6 PO Y := by
  obtain ⟨⟨k1, k2, k3, k4, k5, k6⟩, r1, r2, o⟩ := h
  exact ⟨⟨k1.trans (hb.mono k1.size), k2, k3, k4, k5, Nat.lt_of_lt_of_le k6 hb.size⟩, (hb.block _ (by omega)).trans r1, (hb.block _ k6).trans r2, hP _ _ o hb⟩
theorem LMid.mark {w : World} {b5 b6 n0 n9 : Nat} {R5 R6 : Array Value} {PO PM : World → Prop} {X Y : World} (h : LMid w b5 b6 n0 n9 R5 R6 PO X) (hi : Inside X Y n0 n9) (ho : PM Y) : LMid w b5 b6 n0 n9 R5 R6 PM Y := by
  obtain ⟨⟨k1, k2, k3, k4, k5, k6⟩, r1, r2, o⟩ := h
  have hb := hi.below (by omega)
  exact ⟨⟨k1.trans (hb.mono (by omega)), k2, k3, k4, k5, Nat.lt_of_lt_of_le k6 hi.2.2.2.1⟩, (hb.block _ (by omega)).trans r1, (hi.2.2.2.2 _ k6 (.inr k5)).trans r2, ho⟩
/-- The rows that the program's answer owns. -/
def WOwn (t : Wt) (a0 a1 a2 a3 a4 a5 a6 a7 : Option Addr) (c0 c1 c2 c3 c4 c5 c6 c7 n0 n1 n2 n4 n5 n6 n7 n8 : Nat) (X : World) : Prop := OwnT X n0 (.slice a0 t.en.length c0) t.en ∧ OwnT X n1 (.slice a1 t.h.el.length c1) t.h.el ∧ OwnT X n2 (.slice a2 t.h.pl.length c2) t.h.pl ∧ Owns5 X n4 n5 n6 n7 n8 (.slice a3 t.a.el.length c3) (.slice a4 t.a.pl.length c4) (.slice a5 t.b.el.length c5) (.slice a6 t.b.pl.length c6) (.slice a7 t.fl.length c7) t.a.el t.a.pl t.b.el t.b.pl t.fl
theorem WOwn.keep {t : Wt} {a0 a1 a2 a3 a4 a5 a6 a7 : Option Addr} {c0 c1 c2 c3 c4 c5 c6 c7 n0 n1 n2 n4 n5 n6 n7 n8 : Nat} : ∀ X Y, WOwn t a0 a1 a2 a3 a4 a5 a6 a7 c0 c1 c2 c3 c4 c5 c6 c7 n0 n1 n2 n4 n5 n6 n7 n8 X → Below X.heap.size X Y → WOwn t a0 a1 a2 a3 a4 a5 a6 a7 c0 c1 c2 c3 c4 c5 c6 c7 n0 n1 n2 n4 n5 n6 n7 n8 Y := fun X Y h hb => ⟨h.1.below hb (Nat.le_refl _), h.2.1.below hb (Nat.le_refl _), h.2.2.1.below hb (Nat.le_refl _), h.2.2.2.below hb (Nat.le_refl _)⟩
theorem WOwn.ins {t : Wt} {a0 a1 a2 a3 a4 a5 a6 a7 : Option Addr} {c0 c1 c2 c3 c4 c5 c6 c7 n0 n1 n2 n4 n5 n6 n7 n8 : Nat} {X : World} (h : WOwn t a0 a1 a2 a3 a4 a5 a6 a7 c0 c1 c2 c3 c4 c5 c6 c7 n0 n1 n2 n4 n5 n6 n7 n8 X) : t.In (.slice a0 t.en.length c0) (.slice a1 t.h.el.length c1) (.slice a2 t.h.pl.length c2) (.slice a3 t.a.el.length c3) (.slice a4 t.a.pl.length c4) (.slice a5 t.b.el.length c5) (.slice a6 t.b.pl.length c6) (.slice a7 t.fl.length c7) X X.heap.size :=
  ⟨h.1.texts, ⟨h.2.1.texts, h.2.2.1.texts⟩, ⟨h.2.2.2.1.1.texts, h.2.2.2.1.2.1.texts⟩, ⟨h.2.2.2.1.2.2.1.texts, h.2.2.2.1.2.2.2.1.texts⟩, h.2.2.2.1.2.2.2.2.texts⟩
theorem WMarks.keep {t : Wt} {a0 a1 a2 a3 a4 a5 a6 a7 : Option Addr} {c0 c1 c2 c3 c4 c5 c6 c7 j pm n0 n1 n2 n4 n5 n6 n7 n8 : Nat} : ∀ X Y, WMarks t a0 a1 a2 a3 a4 a5 a6 a7 c0 c1 c2 c3 c4 c5 c6 c7 j pm n0 n1 n2 n4 n5 n6 n7 n8 X → Below X.heap.size X Y → WMarks t a0 a1 a2 a3 a4 a5 a6 a7 c0 c1 c2 c3 c4 c5 c6 c7 j pm n0 n1 n2 n4 n5 n6 n7 n8 Y := fun X Y h hb => ⟨h.1.below hb (Nat.le_refl _), h.2.1.below hb (Nat.le_refl _), h.2.2.1.below hb (Nat.le_refl _), h.2.2.2.below hb (Nat.le_refl _)⟩

set_option maxHeartbeats 400000 in
theorem eqHeads_nil (w : World) : Calls Try.prog 29 #[.slice none 0 0, .slice none 0 0] w fun e w' => e = .returned (.bool true) ∧ Below w.heap.size w w' := by
  go_enter Try.func29, Try.ntmps29
  go_wp2
  go_loop [5] (fun i => i = .int .i64 0) (fun _ => 0)
  case atStart => rfl
  case round =>
    obtain rfl := hrel
    go_wp2
    go_ret
    exact ⟨rfl, Below.refl _ _⟩
set_option maxHeartbeats 400000 in
theorem markHeads_nil (k : Int) (w : World) : Calls Try.prog 32 #[.slice none 0 0, .int .i64 k] w fun e w' => e = .returned (.int .i64 k) ∧ w' = w := by
  go_enter Try.func32, Try.ntmps32
  go_wp2
  go_loopw [1, 5] (fun o i wr => o = .int .i64 k ∧ i = .int .i64 0 ∧ wr = w) (fun _ _ _ => 0)
  case atStart => exact ⟨rfl, rfl, rfl⟩
  case round =>
    obtain ⟨rfl, rfl, rfl⟩ := hrel
    go_wp2
    go_ret
    exact ⟨rfl, rfl⟩
set_option maxHeartbeats 400000 in
theorem heldHeads_nil (k : Int) (w : World) : Calls Try.prog 35 #[.slice none 0 0, .int .i64 k] w fun e w' => e = .returned (.int .i64 k) ∧ Below w.heap.size w w' := by
  go_enter Try.func35, Try.ntmps35
  go_wp2
  go_loop [1, 5] (fun o i => o = .int .i64 k ∧ i = .int .i64 0) (fun _ _ => 0)
  case atStart => exact ⟨rfl, rfl⟩
  case round =>
    obtain ⟨rfl, rfl⟩ := hrel
    go_wp2
    go_ret
    exact ⟨rfl, Below.refl _ _⟩

theorem wnewW_facts (log key : ByteArray) (h1 : log.size ≤ 1048576) (h2 : key.size ≤ 1048576) (t : Wt) (ht : t = wnewW log key) : t.Fits ∧ (t.en.length ≤ 100000 ∧ t.h.el.length ≤ 100000 ∧ t.h.pl.length ≤ 100000 ∧ t.a.el.length ≤ 100000 ∧ t.a.pl.length ≤ 100000 ∧ t.b.el.length ≤ 100000 ∧ t.b.pl.length ≤ 100000 ∧ t.fl.length ≤ 100000 ∧ 0 ≤ 100000) ∧ ∀ X B, t.In (.slice none t.en.length 0) (.slice none t.h.el.length 0) (.slice none t.h.pl.length 0) (.slice none t.a.el.length 0) (.slice none t.a.pl.length 0) (.slice none t.b.el.length 0) (.slice none t.b.pl.length 0) (.slice none t.fl.length 0) X B := by
  subst ht
  unfold wnewW
  split
  · exact ⟨newW_fits h1 h2, ⟨Nat.zero_le _, Nat.zero_le _, Nat.zero_le _, Nat.zero_le _, Nat.zero_le _, Nat.zero_le _, Nat.zero_le _, Nat.zero_le _, Nat.zero_le _⟩, newW_in log key⟩
  · exact ⟨newW_fits (Nat.zero_le _) (Nat.zero_le _), ⟨Nat.zero_le _, Nat.zero_le _, Nat.zero_le _, Nat.zero_le _, Nat.zero_le _, Nat.zero_le _, Nat.zero_le _, Nat.zero_le _, Nat.zero_le _⟩, newW_in _ _⟩

set_option maxHeartbeats 4000000 in
set_option maxRecDepth 10000 in
theorem lawWatchNew_any (log key : ByteArray) (w : World) (hl0 : log.size ≤ maxLen) (hk0 : key.size ≤ maxLen) :
    Calls Try.prog 4 #[.string log, .string key] w fun e w' => e = .returned (.bool true) ∧ Below w.heap.size w w' := by
  unfold maxLen at hl0 hk0
  by_cases h1 : (1048576 : Int) < log.size
  · go_enter Try.func4, Try.ntmps4
    go_wp2
    go_ret
    exact ⟨rfl, Below.refl _ _⟩
  by_cases h2 : (1048576 : Int) < key.size
  · go_enter Try.func4, Try.ntmps4
    go_wp2
    go_ret
    exact ⟨rfl, Below.refl _ _⟩
  have ES : Hid (∀ w, Calls Try.prog 10 #[.string log, .string key] w fun e w' => Wt.Own w (wnewW log key) NilQ e w' ∧ (∃ lg ky, e = .returned (.agg #[.string lg, .string ky, .slice none 0 0, .string ⟨#[]⟩, .int .i64 0, .string ⟨#[]⟩, .int .i64 0, .int .i64 0, .slice none 0 0, .slice none 0 0, .slice none 0 0, .bool false, .string ⟨#[]⟩, .int .i64 0, .string ⟨#[]⟩, .int .i64 0, .int .i64 0, .slice none 0 0, .slice none 0 0, .string ⟨#[]⟩, .int .i64 0, .string ⟨#[]⟩, .int .i64 0, .int .i64 0, .slice none 0 0, .slice none 0 0, .slice none 0 0]) ∧ wnewW log key = newW lg ky)) := fun w => specWatchNew_any log key w (by omega)
  have EI : Hid (∀ w, Calls Try.prog 11 #[.string log, .string key] w fun e w' => Wt.Own w (wnewW log key) NilQ e w') := fun w => implWatchNew_any log key w (by omega) (by omega)
  have HF : Hid ((wnewW log key).Fits ∧ ((wnewW log key).en.length ≤ 100000 ∧ (wnewW log key).h.el.length ≤ 100000 ∧ (wnewW log key).h.pl.length ≤ 100000 ∧ (wnewW log key).a.el.length ≤ 100000 ∧ (wnewW log key).a.pl.length ≤ 100000 ∧ (wnewW log key).b.el.length ≤ 100000 ∧ (wnewW log key).b.pl.length ≤ 100000 ∧ (wnewW log key).fl.length ≤ 100000 ∧ 0 ≤ 100000) ∧ ∀ X B, (wnewW log key).In (.slice none (wnewW log key).en.length 0) (.slice none (wnewW log key).h.el.length 0) (.slice none (wnewW log key).h.pl.length 0) (.slice none (wnewW log key).a.el.length 0) (.slice none (wnewW log key).a.pl.length 0) (.slice none (wnewW log key).b.el.length 0) (.slice none (wnewW log key).b.pl.length 0) (.slice none (wnewW log key).fl.length 0) X B) := wnewW_facts log key (by omega) (by omega) _ rfl
  generalize wnewW log key = t at *
  clear hl0 hk0
  go_enter Try.func4, Try.ntmps4
  go_wp2_with fail
  refine (ES.out _).mono ?_
  rintro e w1 ⟨hown, lg, ky, he, hT⟩
  have he2 : e = .returned (.agg #[.string t.log, .string t.key, .slice none t.en.length 0, .string t.h.log, .int .i64 t.h.size, .string t.h.root, .int .i64 t.h.time, .int .i64 t.h.k, .slice none t.h.el.length 0, .slice none t.h.pl.length 0, .slice none 0 0, .bool t.found, .string t.a.log, .int .i64 t.a.size, .string t.a.root, .int .i64 t.a.time, .int .i64 t.a.k, .slice none t.a.el.length 0, .slice none t.a.pl.length 0, .string t.b.log, .int .i64 t.b.size, .string t.b.root, .int .i64 t.b.time, .int .i64 t.b.k, .slice none t.b.el.length 0, .slice none t.b.pl.length 0, .slice none t.fl.length 0]) := by rw [hT]; exact he
  have hb : Below w.heap.size w w1 := by
    obtain ⟨_, _, _, _, _, _, _, _, _, _, _, _, _, _, _, _, _, _, _, _, _, _, hb⟩ := hown
    exact hb
  subst he2
  obtain ⟨W1, hW1⟩ : ∃ W1, W1 = w1.alloc (.cells #[.string t.log, .string t.key, .slice none t.en.length 0, .string t.h.log, .int .i64 t.h.size, .string t.h.root, .int .i64 t.h.time, .int .i64 t.h.k, .slice none t.h.el.length 0, .slice none t.h.pl.length 0, .slice none 0 0, .bool t.found, .string t.a.log, .int .i64 t.a.size, .string t.a.root, .int .i64 t.a.time, .int .i64 t.a.k, .slice none t.a.el.length 0, .slice none t.a.pl.length 0, .string t.b.log, .int .i64 t.b.size, .string t.b.root, .int .i64 t.b.time, .int .i64 t.b.k, .slice none t.b.el.length 0, .slice none t.b.pl.length 0, .slice none t.fl.length 0] 37) := ⟨_, rfl⟩
  have hal : Below w1.heap.size w1 W1 := by rw [hW1]; exact (Below.refl _ _).alloc (Nat.le_refl _) _
  obtain ⟨b5, hb5⟩ : ∃ b5, b5 = w1.heap.size := ⟨_, rfl⟩
  have H1 : Hid (Below w.heap.size w W1 ∧ w.heap.size ≤ b5 ∧ b5 < W1.heap.size ∧ W1.heap[b5]? = some (.cells #[.string t.log, .string t.key, .slice none t.en.length 0, .string t.h.log, .int .i64 t.h.size, .string t.h.root, .int .i64 t.h.time, .int .i64 t.h.k, .slice none t.h.el.length 0, .slice none t.h.pl.length 0, .slice none 0 0, .bool t.found, .string t.a.log, .int .i64 t.a.size, .string t.a.root, .int .i64 t.a.time, .int .i64 t.a.k, .slice none t.a.el.length 0, .slice none t.a.pl.length 0, .string t.b.log, .int .i64 t.b.size, .string t.b.root, .int .i64 t.b.time, .int .i64 t.b.k, .slice none t.b.el.length 0, .slice none t.b.pl.length 0, .slice none t.fl.length 0] 37 (0, 0))) := ⟨hb.trans (hal.mono hb.size), by rw [hb5]; exact hb.size, by rw [hb5, hW1]; simp, by rw [hb5, hW1]; exact heap_alloc_new w1 _⟩
  have HW1 : Hid (W1 = w1.alloc (.cells #[.string t.log, .string t.key, .slice none t.en.length 0, .string t.h.log, .int .i64 t.h.size, .string t.h.root, .int .i64 t.h.time, .int .i64 t.h.k, .slice none t.h.el.length 0, .slice none t.h.pl.length 0, .slice none 0 0, .bool t.found, .string t.a.log, .int .i64 t.a.size, .string t.a.root, .int .i64 t.a.time, .int .i64 t.a.k, .slice none t.a.el.length 0, .slice none t.a.pl.length 0, .string t.b.log, .int .i64 t.b.size, .string t.b.root, .int .i64 t.b.time, .int .i64 t.b.k, .slice none t.b.el.length 0, .slice none t.b.pl.length 0, .slice none t.fl.length 0] 37)) := hW1
  have HB5 : Hid (b5 = w1.heap.size) := hb5
  clear hown he hT hb hal hW1 hb5 ES
  go_wp2_with (first | (refine wpList_store_row rfl 37 (.tmp 5) (.tmp 18) rfl w1.heap.size _ rfl rfl _ _ (heap_alloc_new _ _) (by kernel_rfl) rfl (by simp [Value.oneCell']) ?_; rw [World.setRow_alloc_new, ← HW1.out, ← HB5.out]))
  clear HW1 HB5
  refine (EI.out _).mono ?_
  rintro e w2 ⟨u0, u1, u2, up, u3, u4, u5, u6, u7, n1, n2, n3, n4, n5, n6, n7, n8, rfl, ⟨o0, o1, o2, rfl, o3⟩, ⟨k0, k1, k2⟩, ⟨z1, z2, z3, z4⟩, _, hb⟩
  obtain ⟨a0, c0, rfl⟩ := o0.len
  obtain ⟨a1, c1, rfl⟩ := o1.len
  obtain ⟨a2, c2, rfl⟩ := o2.len
  obtain ⟨a3, c3, rfl⟩ := o3.1.1.len
  obtain ⟨a4, c4, rfl⟩ := o3.1.2.1.len
  obtain ⟨a5, c5, rfl⟩ := o3.1.2.2.1.len
  obtain ⟨a6, c6, rfl⟩ := o3.1.2.2.2.1.len
  obtain ⟨a7, c7, rfl⟩ := o3.1.2.2.2.2.len
  obtain ⟨W2, hW2⟩ : ∃ W2, W2 = w2.alloc (.cells #[.string t.log, .string t.key, .slice a0 t.en.length c0, .string t.h.log, .int .i64 t.h.size, .string t.h.root, .int .i64 t.h.time, .int .i64 t.h.k, .slice a1 t.h.el.length c1, .slice a2 t.h.pl.length c2, .slice none 0 0, .bool t.found, .string t.a.log, .int .i64 t.a.size, .string t.a.root, .int .i64 t.a.time, .int .i64 t.a.k, .slice a3 t.a.el.length c3, .slice a4 t.a.pl.length c4, .string t.b.log, .int .i64 t.b.size, .string t.b.root, .int .i64 t.b.time, .int .i64 t.b.k, .slice a5 t.b.el.length c5, .slice a6 t.b.pl.length c6, .slice a7 t.fl.length c7] 37) := ⟨_, rfl⟩
  have hal : Below w2.heap.size w2 W2 := by rw [hW2]; exact (Below.refl _ _).alloc (Nat.le_refl _) _
  obtain ⟨b6, hb6⟩ : ∃ b6, b6 = w2.heap.size := ⟨_, rfl⟩
  obtain ⟨n0, hn0⟩ : ∃ n0, n0 = W1.heap.size := ⟨_, rfl⟩
  rw [← hn0] at o0 z1
  have hw2 : WOwn t a0 a1 a2 a3 a4 a5 a6 a7 c0 c1 c2 c3 c4 c5 c6 c7 n0 n1 n2 n4 n5 n6 n7 n8 w2 := ⟨o0, o1, o2, o3⟩
  have M2 : Hid (LMid w b5 b6 n0 b6 #[.string t.log, .string t.key, .slice none t.en.length 0, .string t.h.log, .int .i64 t.h.size, .string t.h.root, .int .i64 t.h.time, .int .i64 t.h.k, .slice none t.h.el.length 0, .slice none t.h.pl.length 0, .slice none 0 0, .bool t.found, .string t.a.log, .int .i64 t.a.size, .string t.a.root, .int .i64 t.a.time, .int .i64 t.a.k, .slice none t.a.el.length 0, .slice none t.a.pl.length 0, .string t.b.log, .int .i64 t.b.size, .string t.b.root, .int .i64 t.b.time, .int .i64 t.b.k, .slice none t.b.el.length 0, .slice none t.b.pl.length 0, .slice none t.fl.length 0] #[.string t.log, .string t.key, .slice a0 t.en.length c0, .string t.h.log, .int .i64 t.h.size, .string t.h.root, .int .i64 t.h.time, .int .i64 t.h.k, .slice a1 t.h.el.length c1, .slice a2 t.h.pl.length c2, .slice none 0 0, .bool t.found, .string t.a.log, .int .i64 t.a.size, .string t.a.root, .int .i64 t.a.time, .int .i64 t.a.k, .slice a3 t.a.el.length c3, .slice a4 t.a.pl.length c4, .string t.b.log, .int .i64 t.b.size, .string t.b.root, .int .i64 t.b.time, .int .i64 t.b.k, .slice a5 t.b.el.length c5, .slice a6 t.b.pl.length c6, .slice a7 t.fl.length c7] (WOwn t a0 a1 a2 a3 a4 a5 a6 a7 c0 c1 c2 c3 c4 c5 c6 c7 n0 n1 n2 n4 n5 n6 n7 n8) W2) := by
    obtain ⟨y1, y2, y3, y4⟩ := H1.out
    have hbb := hb.trans (hal.mono hb.size)
    have := hb.size
    exact ⟨⟨y1.trans (hbb.mono y1.size), y2, by omega, by omega, Nat.le_refl _, by rw [hb6, hW2]; simp⟩, (hbb.block _ y3).trans y4, by rw [hb6, hW2]; exact heap_alloc_new w2 _, WOwn.keep _ _ hw2 hal⟩
  have HN : Hid ((∀ g, (Value.slice a0 t.en.length c0).ownBlock = some g → g < n1) ∧ (∀ g, (Value.slice a1 t.h.el.length c1).ownBlock = some g → g < n2) ∧ (∀ g, (Value.slice a2 t.h.pl.length c2).ownBlock = some g → g < n3) ∧ (∀ g, (Value.slice a7 t.fl.length c7).ownBlock = some g → g < b6) ∧ (n0 ≤ n1 ∧ n1 ≤ n2 ∧ n2 ≤ n3 ∧ n3 ≤ n4 ∧ n8 ≤ b6)) := ⟨k0, k1, k2, fun g hg => by rw [hb6]; exact (World.ownsRow.lt o3.1.2.2.2.2 g hg).2, z1, z2, z3, z4, by rw [hb6]; exact o3.2.2.2.2.2.2⟩
  have HW2 : Hid (W2 = w2.alloc (.cells #[.string t.log, .string t.key, .slice a0 t.en.length c0, .string t.h.log, .int .i64 t.h.size, .string t.h.root, .int .i64 t.h.time, .int .i64 t.h.k, .slice a1 t.h.el.length c1, .slice a2 t.h.pl.length c2, .slice none 0 0, .bool t.found, .string t.a.log, .int .i64 t.a.size, .string t.a.root, .int .i64 t.a.time, .int .i64 t.a.k, .slice a3 t.a.el.length c3, .slice a4 t.a.pl.length c4, .string t.b.log, .int .i64 t.b.size, .string t.b.root, .int .i64 t.b.time, .int .i64 t.b.k, .slice a5 t.b.el.length c5, .slice a6 t.b.pl.length c6, .slice a7 t.fl.length c7] 37)) := hW2
  have HB6 : Hid (b6 = w2.heap.size) := hb6
  clear o0 o1 o2 o3 k0 k1 k2 z1 z2 z3 z4 hb hal hW2 hb6 hn0 H1 hw2
  have EQ : Hid (∀ X, t.In (.slice a0 t.en.length c0) (.slice a1 t.h.el.length c1) (.slice a2 t.h.pl.length c2) (.slice a3 t.a.el.length c3) (.slice a4 t.a.pl.length c4) (.slice a5 t.b.el.length c5) (.slice a6 t.b.pl.length c6) (.slice a7 t.fl.length c7) X X.heap.size → Calls Try.prog 12 #[.agg #[.string t.log, .string t.key, .slice a0 t.en.length c0, .string t.h.log, .int .i64 t.h.size, .string t.h.root, .int .i64 t.h.time, .int .i64 t.h.k, .slice a1 t.h.el.length c1, .slice a2 t.h.pl.length c2, .slice none 0 0, .bool t.found, .string t.a.log, .int .i64 t.a.size, .string t.a.root, .int .i64 t.a.time, .int .i64 t.a.k, .slice a3 t.a.el.length c3, .slice a4 t.a.pl.length c4, .string t.b.log, .int .i64 t.b.size, .string t.b.root, .int .i64 t.b.time, .int .i64 t.b.k, .slice a5 t.b.el.length c5, .slice a6 t.b.pl.length c6, .slice a7 t.fl.length c7], .agg #[.string t.log, .string t.key, .slice none t.en.length 0, .string t.h.log, .int .i64 t.h.size, .string t.h.root, .int .i64 t.h.time, .int .i64 t.h.k, .slice none t.h.el.length 0, .slice none t.h.pl.length 0, .slice none 0 0, .bool t.found, .string t.a.log, .int .i64 t.a.size, .string t.a.root, .int .i64 t.a.time, .int .i64 t.a.k, .slice none t.a.el.length 0, .slice none t.a.pl.length 0, .string t.b.log, .int .i64 t.b.size, .string t.b.root, .int .i64 t.b.time, .int .i64 t.b.k, .slice none t.b.el.length 0, .slice none t.b.pl.length 0, .slice none t.fl.length 0]] X fun e w' => e = .returned (.bool true) ∧ Below X.heap.size X w') := fun X h => eqW_any t _ _ _ _ _ _ _ _ _ _ _ _ _ _ _ _ _ _ _ _ _ _ _ _ _ _ _ _ _ _ _ _ none none 0 0 0 0 X h (HF.out.2.2 X _) HF.out.1 (fun Y _ => eqHeads_nil Y)
  have hr5 := M2.out.2.1
  have hr6 := M2.out.2.2.1
  go_wp2_with (first | (refine wpList_store_row rfl 37 (.tmp 6) (.tmp 21) rfl w2.heap.size _ rfl rfl _ _ (heap_alloc_new _ _) (by kernel_rfl) rfl (by simp [Value.oneCell']) ?_; rw [World.setRow_alloc_new, ← HW2.out, ← HB6.out]) | (refine wpList_load_row rfl 37 (.tmp 6) rfl b6 rfl _ _ _ _ hr6 Try.underlying37 rfl (by kernel_rfl) ?_) | (refine wpList_load_row rfl 37 (.tmp 5) rfl b5 rfl _ _ _ _ hr5 Try.underlying37 rfl (by kernel_rfl) ?_))
  clear HW2 HB6 hr5 hr6
  refine (EQ.out _ M2.out.2.2.2.ins).mono ?_
  rintro e w3 ⟨rfl, hb⟩
  have M3 : Hid (LMid w b5 b6 n0 b6 #[.string t.log, .string t.key, .slice none t.en.length 0, .string t.h.log, .int .i64 t.h.size, .string t.h.root, .int .i64 t.h.time, .int .i64 t.h.k, .slice none t.h.el.length 0, .slice none t.h.pl.length 0, .slice none 0 0, .bool t.found, .string t.a.log, .int .i64 t.a.size, .string t.a.root, .int .i64 t.a.time, .int .i64 t.a.k, .slice none t.a.el.length 0, .slice none t.a.pl.length 0, .string t.b.log, .int .i64 t.b.size, .string t.b.root, .int .i64 t.b.time, .int .i64 t.b.k, .slice none t.b.el.length 0, .slice none t.b.pl.length 0, .slice none t.fl.length 0] #[.string t.log, .string t.key, .slice a0 t.en.length c0, .string t.h.log, .int .i64 t.h.size, .string t.h.root, .int .i64 t.h.time, .int .i64 t.h.k, .slice a1 t.h.el.length c1, .slice a2 t.h.pl.length c2, .slice none 0 0, .bool t.found, .string t.a.log, .int .i64 t.a.size, .string t.a.root, .int .i64 t.a.time, .int .i64 t.a.k, .slice a3 t.a.el.length c3, .slice a4 t.a.pl.length c4, .string t.b.log, .int .i64 t.b.size, .string t.b.root, .int .i64 t.b.time, .int .i64 t.b.k, .slice a5 t.b.el.length c5, .slice a6 t.b.pl.length c6, .slice a7 t.fl.length c7] (WOwn t a0 a1 a2 a3 a4 a5 a6 a7 c0 c1 c2 c3 c4 c5 c6 c7 n0 n1 n2 n4 n5 n6 n7 n8) w3) := M2.out.below WOwn.keep hb
  clear hb M2 EQ
  as_aux_lemma =>
    have hr6 := M3.out.2.2.1
    have EM : Hid (Calls Try.prog 13 #[.agg #[.string t.log, .string t.key, .slice a0 t.en.length c0, .string t.h.log, .int .i64 t.h.size, .string t.h.root, .int .i64 t.h.time, .int .i64 t.h.k, .slice a1 t.h.el.length c1, .slice a2 t.h.pl.length c2, .slice none 0 0, .bool t.found, .string t.a.log, .int .i64 t.a.size, .string t.a.root, .int .i64 t.a.time, .int .i64 t.a.k, .slice a3 t.a.el.length c3, .slice a4 t.a.pl.length c4, .string t.b.log, .int .i64 t.b.size, .string t.b.root, .int .i64 t.b.time, .int .i64 t.b.k, .slice a5 t.b.el.length c5, .slice a6 t.b.pl.length c6, .slice a7 t.fl.length c7], .int .i64 1] w3 fun e w' => e = .returned (.int .i64 ((1 + t.en.length + t.h.el.length + t.h.pl.length + 0 + t.a.el.length + t.a.pl.length + t.b.el.length + t.b.pl.length + t.fl.length : Nat) : Int)) ∧ (WMarks t a0 a1 a2 a3 a4 a5 a6 a7 c0 c1 c2 c3 c4 c5 c6 c7 1 0 n0 n1 n2 n4 n5 n6 n7 n8 w' ∧ True) ∧ Inside w3 w' n0 b6) := markW_any t _ _ _ _ _ _ _ _ _ _ _ _ _ _ _ _ none 0 0 w3 1 0 n0 n1 n2 n3 n4 n5 n6 n7 n8 b6 (fun _ => True) (fun _ => True) (fun _ _ _ _ _ => trivial) (fun _ _ _ _ _ => trivial) M3.out.2.2.2.1 M3.out.2.2.2.2.1 M3.out.2.2.2.2.2.1 trivial M3.out.2.2.2.2.2.2 HN.out.1 HN.out.2.1 HN.out.2.2.1 HN.out.2.2.2.1 (by have q := HN.out.2.2.2.2; have := M3.out.1; omega) ⟨by omega, by omega⟩ HF.out.2.1 (fun X _ _ => (markHeads_nil _ X).mono fun e w' h => ⟨h.1, trivial, by rw [h.2]; exact Inside.refl _ _ _⟩)
    have EHD : Hid (∀ X, WMarks t a0 a1 a2 a3 a4 a5 a6 a7 c0 c1 c2 c3 c4 c5 c6 c7 1 0 n0 n1 n2 n4 n5 n6 n7 n8 X → Calls Try.prog 14 #[.agg #[.string t.log, .string t.key, .slice a0 t.en.length c0, .string t.h.log, .int .i64 t.h.size, .string t.h.root, .int .i64 t.h.time, .int .i64 t.h.k, .slice a1 t.h.el.length c1, .slice a2 t.h.pl.length c2, .slice none 0 0, .bool t.found, .string t.a.log, .int .i64 t.a.size, .string t.a.root, .int .i64 t.a.time, .int .i64 t.a.k, .slice a3 t.a.el.length c3, .slice a4 t.a.pl.length c4, .string t.b.log, .int .i64 t.b.size, .string t.b.root, .int .i64 t.b.time, .int .i64 t.b.k, .slice a5 t.b.el.length c5, .slice a6 t.b.pl.length c6, .slice a7 t.fl.length c7], .int .i64 1] X fun e w' => e = .returned (.int .i64 ((1 + t.en.length + t.h.el.length + t.h.pl.length + 0 + t.a.el.length + t.a.pl.length + t.b.el.length + t.b.pl.length + t.fl.length : Nat) : Int)) ∧ Below X.heap.size X w') := fun X h => heldW_any t _ _ _ _ _ _ _ _ _ _ _ _ _ _ _ _ none 0 0 X 1 0 n0 n1 n2 n4 n5 n6 n7 n8 (fun _ => True) h ⟨by omega, by omega⟩ HF.out.2.1 (fun Y _ => heldHeads_nil _ Y)
    have hm : ¬ ((1 + t.en.length + t.h.el.length + t.h.pl.length + 0 + t.a.el.length + t.a.pl.length + t.b.el.length + t.b.pl.length + t.fl.length : Nat) : Int) < 0 := by omega
    generalize ((1 + t.en.length + t.h.el.length + t.h.pl.length + 0 + t.a.el.length + t.a.pl.length + t.b.el.length + t.b.pl.length + t.fl.length : Nat) : Int) = k5 at *
    go_wp2_with (first | (refine wpList_load_row rfl 37 (.tmp 6) rfl b6 rfl _ _ _ _ hr6 Try.underlying37 rfl (by kernel_rfl) ?_))
    clear hr6
    refine EM.out.mono ?_
    rintro e w4 ⟨rfl, ⟨ho, _⟩, hi⟩
    have M4 : Hid (LMid w b5 b6 n0 b6 #[.string t.log, .string t.key, .slice none t.en.length 0, .string t.h.log, .int .i64 t.h.size, .string t.h.root, .int .i64 t.h.time, .int .i64 t.h.k, .slice none t.h.el.length 0, .slice none t.h.pl.length 0, .slice none 0 0, .bool t.found, .string t.a.log, .int .i64 t.a.size, .string t.a.root, .int .i64 t.a.time, .int .i64 t.a.k, .slice none t.a.el.length 0, .slice none t.a.pl.length 0, .string t.b.log, .int .i64 t.b.size, .string t.b.root, .int .i64 t.b.time, .int .i64 t.b.k, .slice none t.b.el.length 0, .slice none t.b.pl.length 0, .slice none t.fl.length 0] #[.string t.log, .string t.key, .slice a0 t.en.length c0, .string t.h.log, .int .i64 t.h.size, .string t.h.root, .int .i64 t.h.time, .int .i64 t.h.k, .slice a1 t.h.el.length c1, .slice a2 t.h.pl.length c2, .slice none 0 0, .bool t.found, .string t.a.log, .int .i64 t.a.size, .string t.a.root, .int .i64 t.a.time, .int .i64 t.a.k, .slice a3 t.a.el.length c3, .slice a4 t.a.pl.length c4, .string t.b.log, .int .i64 t.b.size, .string t.b.root, .int .i64 t.b.time, .int .i64 t.b.k, .slice a5 t.b.el.length c5, .slice a6 t.b.pl.length c6, .slice a7 t.fl.length c7] (WMarks t a0 a1 a2 a3 a4 a5 a6 a7 c0 c1 c2 c3 c4 c5 c6 c7 1 0 n0 n1 n2 n4 n5 n6 n7 n8) w4) := M3.out.mark hi ho
    clear ho hi M3 EM
    have hr6 := M4.out.2.2.1
    go_wp2_with (first | (refine wpList_load_row rfl 37 (.tmp 6) rfl b6 rfl _ _ _ _ hr6 Try.underlying37 rfl (by kernel_rfl) ?_))
    clear hr6
    refine (EHD.out _ M4.out.2.2.2).mono ?_
    rintro e w5 ⟨rfl, hb⟩
    have M5 : Hid (LMid w b5 b6 n0 b6 #[.string t.log, .string t.key, .slice none t.en.length 0, .string t.h.log, .int .i64 t.h.size, .string t.h.root, .int .i64 t.h.time, .int .i64 t.h.k, .slice none t.h.el.length 0, .slice none t.h.pl.length 0, .slice none 0 0, .bool t.found, .string t.a.log, .int .i64 t.a.size, .string t.a.root, .int .i64 t.a.time, .int .i64 t.a.k, .slice none t.a.el.length 0, .slice none t.a.pl.length 0, .string t.b.log, .int .i64 t.b.size, .string t.b.root, .int .i64 t.b.time, .int .i64 t.b.k, .slice none t.b.el.length 0, .slice none t.b.pl.length 0, .slice none t.fl.length 0] #[.string t.log, .string t.key, .slice a0 t.en.length c0, .string t.h.log, .int .i64 t.h.size, .string t.h.root, .int .i64 t.h.time, .int .i64 t.h.k, .slice a1 t.h.el.length c1, .slice a2 t.h.pl.length c2, .slice none 0 0, .bool t.found, .string t.a.log, .int .i64 t.a.size, .string t.a.root, .int .i64 t.a.time, .int .i64 t.a.k, .slice a3 t.a.el.length c3, .slice a4 t.a.pl.length c4, .string t.b.log, .int .i64 t.b.size, .string t.b.root, .int .i64 t.b.time, .int .i64 t.b.k, .slice a5 t.b.el.length c5, .slice a6 t.b.pl.length c6, .slice a7 t.fl.length c7] (WMarks t a0 a1 a2 a3 a4 a5 a6 a7 c0 c1 c2 c3 c4 c5 c6 c7 1 0 n0 n1 n2 n4 n5 n6 n7 n8) w5) := M4.out.below WMarks.keep hb
    clear hb M4
    as_aux_lemma =>
      go_wp2_with fail
      refine (EI.out _).mono ?_
      rintro e w6 ⟨v0, v1, v2, vp, v3, v4, v5, v6, v7, m1, m2, m3, m4, m5, m6, m7, m8, rfl, ⟨o0, o1, o2, rfl, o3⟩, _, _, _, hb⟩
      obtain ⟨b0, d0, rfl⟩ := o0.len
      obtain ⟨b1, d1, rfl⟩ := o1.len
      obtain ⟨b2, d2, rfl⟩ := o2.len
      obtain ⟨b3, d3, rfl⟩ := o3.1.1.len
      obtain ⟨b4, d4, rfl⟩ := o3.1.2.1.len
      obtain ⟨g5, d5, rfl⟩ := o3.1.2.2.1.len
      obtain ⟨g6, d6, rfl⟩ := o3.1.2.2.2.1.len
      obtain ⟨b7, d7, rfl⟩ := o3.1.2.2.2.2.len
      obtain ⟨W6, hW6⟩ : ∃ W6, W6 = w6.alloc (.cells #[.string t.log, .string t.key, .slice b0 t.en.length d0, .string t.h.log, .int .i64 t.h.size, .string t.h.root, .int .i64 t.h.time, .int .i64 t.h.k, .slice b1 t.h.el.length d1, .slice b2 t.h.pl.length d2, .slice none 0 0, .bool t.found, .string t.a.log, .int .i64 t.a.size, .string t.a.root, .int .i64 t.a.time, .int .i64 t.a.k, .slice b3 t.a.el.length d3, .slice b4 t.a.pl.length d4, .string t.b.log, .int .i64 t.b.size, .string t.b.root, .int .i64 t.b.time, .int .i64 t.b.k, .slice g5 t.b.el.length d5, .slice g6 t.b.pl.length d6, .slice b7 t.fl.length d7] 37) := ⟨_, rfl⟩
      have hal : Below w6.heap.size w6 W6 := by rw [hW6]; exact (Below.refl _ _).alloc (Nat.le_refl _) _
      have M6 : Hid (LMid w b5 b6 n0 b6 #[.string t.log, .string t.key, .slice none t.en.length 0, .string t.h.log, .int .i64 t.h.size, .string t.h.root, .int .i64 t.h.time, .int .i64 t.h.k, .slice none t.h.el.length 0, .slice none t.h.pl.length 0, .slice none 0 0, .bool t.found, .string t.a.log, .int .i64 t.a.size, .string t.a.root, .int .i64 t.a.time, .int .i64 t.a.k, .slice none t.a.el.length 0, .slice none t.a.pl.length 0, .string t.b.log, .int .i64 t.b.size, .string t.b.root, .int .i64 t.b.time, .int .i64 t.b.k, .slice none t.b.el.length 0, .slice none t.b.pl.length 0, .slice none t.fl.length 0] #[.string t.log, .string t.key, .slice a0 t.en.length c0, .string t.h.log, .int .i64 t.h.size, .string t.h.root, .int .i64 t.h.time, .int .i64 t.h.k, .slice a1 t.h.el.length c1, .slice a2 t.h.pl.length c2, .slice none 0 0, .bool t.found, .string t.a.log, .int .i64 t.a.size, .string t.a.root, .int .i64 t.a.time, .int .i64 t.a.k, .slice a3 t.a.el.length c3, .slice a4 t.a.pl.length c4, .string t.b.log, .int .i64 t.b.size, .string t.b.root, .int .i64 t.b.time, .int .i64 t.b.k, .slice a5 t.b.el.length c5, .slice a6 t.b.pl.length c6, .slice a7 t.fl.length c7] (WMarks t a0 a1 a2 a3 a4 a5 a6 a7 c0 c1 c2 c3 c4 c5 c6 c7 1 0 n0 n1 n2 n4 n5 n6 n7 n8) W6 ∧ t.In (.slice b0 t.en.length d0) (.slice b1 t.h.el.length d1) (.slice b2 t.h.pl.length d2) (.slice b3 t.a.el.length d3) (.slice b4 t.a.pl.length d4) (.slice g5 t.b.el.length d5) (.slice g6 t.b.pl.length d6) (.slice b7 t.fl.length d7) W6 W6.heap.size) := ⟨M5.out.below WMarks.keep (hb.trans (hal.mono hb.size)), (WOwn.ins (X := w6) ⟨o0, o1, o2, o3⟩).on hal⟩
      have hr5 := M6.out.1.2.1
      have hr9 : W6.heap[w6.heap.size]? = some (.cells #[.string t.log, .string t.key, .slice b0 t.en.length d0, .string t.h.log, .int .i64 t.h.size, .string t.h.root, .int .i64 t.h.time, .int .i64 t.h.k, .slice b1 t.h.el.length d1, .slice b2 t.h.pl.length d2, .slice none 0 0, .bool t.found, .string t.a.log, .int .i64 t.a.size, .string t.a.root, .int .i64 t.a.time, .int .i64 t.a.k, .slice b3 t.a.el.length d3, .slice b4 t.a.pl.length d4, .string t.b.log, .int .i64 t.b.size, .string t.b.root, .int .i64 t.b.time, .int .i64 t.b.k, .slice g5 t.b.el.length d5, .slice g6 t.b.pl.length d6, .slice b7 t.fl.length d7] 37 (0, 0)) := by rw [hW6]; exact heap_alloc_new w6 _
      have HW6 : Hid (W6 = w6.alloc (.cells #[.string t.log, .string t.key, .slice b0 t.en.length d0, .string t.h.log, .int .i64 t.h.size, .string t.h.root, .int .i64 t.h.time, .int .i64 t.h.k, .slice b1 t.h.el.length d1, .slice b2 t.h.pl.length d2, .slice none 0 0, .bool t.found, .string t.a.log, .int .i64 t.a.size, .string t.a.root, .int .i64 t.a.time, .int .i64 t.a.k, .slice b3 t.a.el.length d3, .slice b4 t.a.pl.length d4, .string t.b.log, .int .i64 t.b.size, .string t.b.root, .int .i64 t.b.time, .int .i64 t.b.k, .slice g5 t.b.el.length d5, .slice g6 t.b.pl.length d6, .slice b7 t.fl.length d7] 37)) := hW6
      have E6 : Hid (Calls Try.prog 12 #[.agg #[.string t.log, .string t.key, .slice b0 t.en.length d0, .string t.h.log, .int .i64 t.h.size, .string t.h.root, .int .i64 t.h.time, .int .i64 t.h.k, .slice b1 t.h.el.length d1, .slice b2 t.h.pl.length d2, .slice none 0 0, .bool t.found, .string t.a.log, .int .i64 t.a.size, .string t.a.root, .int .i64 t.a.time, .int .i64 t.a.k, .slice b3 t.a.el.length d3, .slice b4 t.a.pl.length d4, .string t.b.log, .int .i64 t.b.size, .string t.b.root, .int .i64 t.b.time, .int .i64 t.b.k, .slice g5 t.b.el.length d5, .slice g6 t.b.pl.length d6, .slice b7 t.fl.length d7], .agg #[.string t.log, .string t.key, .slice none t.en.length 0, .string t.h.log, .int .i64 t.h.size, .string t.h.root, .int .i64 t.h.time, .int .i64 t.h.k, .slice none t.h.el.length 0, .slice none t.h.pl.length 0, .slice none 0 0, .bool t.found, .string t.a.log, .int .i64 t.a.size, .string t.a.root, .int .i64 t.a.time, .int .i64 t.a.k, .slice none t.a.el.length 0, .slice none t.a.pl.length 0, .string t.b.log, .int .i64 t.b.size, .string t.b.root, .int .i64 t.b.time, .int .i64 t.b.k, .slice none t.b.el.length 0, .slice none t.b.pl.length 0, .slice none t.fl.length 0]] W6 fun e w' => e = .returned (.bool true) ∧ Below W6.heap.size W6 w') := eqW_any t _ _ _ _ _ _ _ _ _ _ _ _ _ _ _ _ _ _ _ _ _ _ _ _ _ _ _ _ _ _ _ _ none none 0 0 0 0 W6 M6.out.2 (HF.out.2.2 W6 _) HF.out.1 (fun Y _ => eqHeads_nil Y)
      clear o0 o1 o2 o3 hb hal hW6 M5
      go_wp2_with (first | (refine wpList_store_row rfl 37 (.tmp 9) (.tmp 39) rfl w6.heap.size _ rfl rfl _ _ (heap_alloc_new _ _) (by kernel_rfl) rfl (by simp [Value.oneCell']) ?_; rw [World.setRow_alloc_new, ← HW6.out]) | (refine wpList_load_row rfl 37 (.tmp 9) rfl w6.heap.size rfl _ _ _ _ hr9 Try.underlying37 rfl (by kernel_rfl) ?_) | (refine wpList_load_row rfl 37 (.tmp 5) rfl b5 rfl _ _ _ _ hr5 Try.underlying37 rfl (by kernel_rfl) ?_))
      clear HW6 hr5 hr9
      refine E6.out.mono ?_
      rintro e w7 ⟨rfl, hb⟩
      have M7 : Hid (LMid w b5 b6 n0 b6 #[.string t.log, .string t.key, .slice none t.en.length 0, .string t.h.log, .int .i64 t.h.size, .string t.h.root, .int .i64 t.h.time, .int .i64 t.h.k, .slice none t.h.el.length 0, .slice none t.h.pl.length 0, .slice none 0 0, .bool t.found, .string t.a.log, .int .i64 t.a.size, .string t.a.root, .int .i64 t.a.time, .int .i64 t.a.k, .slice none t.a.el.length 0, .slice none t.a.pl.length 0, .string t.b.log, .int .i64 t.b.size, .string t.b.root, .int .i64 t.b.time, .int .i64 t.b.k, .slice none t.b.el.length 0, .slice none t.b.pl.length 0, .slice none t.fl.length 0] #[.string t.log, .string t.key, .slice a0 t.en.length c0, .string t.h.log, .int .i64 t.h.size, .string t.h.root, .int .i64 t.h.time, .int .i64 t.h.k, .slice a1 t.h.el.length c1, .slice a2 t.h.pl.length c2, .slice none 0 0, .bool t.found, .string t.a.log, .int .i64 t.a.size, .string t.a.root, .int .i64 t.a.time, .int .i64 t.a.k, .slice a3 t.a.el.length c3, .slice a4 t.a.pl.length c4, .string t.b.log, .int .i64 t.b.size, .string t.b.root, .int .i64 t.b.time, .int .i64 t.b.k, .slice a5 t.b.el.length c5, .slice a6 t.b.pl.length c6, .slice a7 t.fl.length c7] (WMarks t a0 a1 a2 a3 a4 a5 a6 a7 c0 c1 c2 c3 c4 c5 c6 c7 1 0 n0 n1 n2 n4 n5 n6 n7 n8) w7) := M6.out.1.below WMarks.keep hb
      clear hb M6 E6
      have hr6 := M7.out.2.2.1
      go_wp2_with (first | (refine wpList_load_row rfl 37 (.tmp 6) rfl b6 rfl _ _ _ _ hr6 Try.underlying37 rfl (by kernel_rfl) ?_))
      clear hr6
      refine (EHD.out _ M7.out.2.2.2).mono ?_
      rintro e w8 ⟨rfl, hb⟩
      have M8 : Hid (Below w.heap.size w w8) := (M7.out.below WMarks.keep hb).1.1
      clear hb M7
      go_wp2
      go_ret
      exact ⟨rfl, M8.out⟩
end Go.Proofs.Ytpglcbidfghfkaa
