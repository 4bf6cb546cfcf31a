/-
  The laws' marks: an answer's rows are written over, and hold what was written.
-/
import Derived.Test.YtcenlgfopmahcaaGreatDoorPkStepLaws
import Derived.Test.YtcenlgfopmahcaaGreatDoorPkShaPure
import Derived.Test.YtcenlgfopmahcaaGreatDoorPkTexts
import Derived.Test.YtcenlgfopmahcaaGreatDoorPkTextRows
import Derived.Laws.Concat
namespace Go.Proofs.YtcenlgfopmahcaaGreatDoor
open Go.RowKit Go.Lib
set_option linter.unusedVariables false

/-- The digits of a number ahead of a text. -/
def decS (go : Nat × ByteArray → ByteArray) (p : Nat × ByteArray) : ByteArray := if h : p.1 = 0 then p.2 else go (p.1 / 10, ⟨#[UInt8.ofNat (48 + p.1 % 10)]⟩ ++ p.2)
def decG (k : Nat) (out : ByteArray) : ByteArray := wfix (fun p : Nat × ByteArray => p.1) ByteArray.empty decS (k, out)
theorem decG_eq (k : Nat) (out : ByteArray) : decG k out = if h : k = 0 then out else decG (k / 10) (⟨#[UInt8.ofNat (48 + k % 10)]⟩ ++ out) :=
  wfix_eq (fun p : Nat × ByteArray => p.1) ByteArray.empty decS (fun x g g' h => by
    unfold decS
    by_cases c : x.1 = 0
    · rw [dif_pos c, dif_pos c]
    · rw [dif_neg c, dif_neg c]
      exact h _ (by show x.1 / 10 < x.1; omega)) (k, out)
theorem decG_zero (out : ByteArray) : decG 0 out = out := by rw [decG_eq, dif_pos rfl]
theorem decG_more {k : Nat} (h : 0 < k) (out : ByteArray) : decG k out = decG (k / 10) (⟨#[UInt8.ofNat (48 + k % 10)]⟩ ++ out) := by rw [decG_eq, dif_neg (by omega)]
def lenS (go : Nat → Nat) (k : Nat) : Nat := if h : k = 0 then 0 else 1 + go (k / 10)
def lenD (k : Nat) : Nat := wfix id 0 lenS k
theorem lenD_eq (k : Nat) : lenD k = if h : k = 0 then 0 else 1 + lenD (k / 10) :=
  wfix_eq id 0 lenS (fun x g g' h => by
    unfold lenS
    by_cases c : x = 0
    · rw [dif_pos c, dif_pos c]
    · rw [dif_neg c, dif_neg c, h (x / 10) (by show x / 10 < x; omega)]) k
theorem lenD_more {k : Nat} (h : 0 < k) : lenD k = 1 + lenD (k / 10) := by rw [lenD_eq, dif_neg (by omega)]
theorem lenD_le (f : Nat) : ∀ k, k < 10 ^ f → lenD k ≤ f := by
  induction f with
  | zero =>
    intro k h
    have h0 : k = 0 := by simpa using h
    rw [lenD_eq, dif_pos h0]
    exact Nat.le_refl _
  | succ f ih =>
    intro k h
    by_cases h0 : k = 0
    · subst h0; rw [lenD_eq, dif_pos rfl]; omega
    · rw [lenD_more (by omega)]
      have := ih (k / 10) (by rw [Nat.pow_succ] at h; omega)
      omega
def markB (k : Nat) : ByteArray := ⟨#[109]⟩ ++ decG k ⟨#[]⟩

theorem conv_one (w : World) (y : Int) (c : UInt8) (hy : y = c.toNat) : (convert 87 9 (.slice (some ⟨w.heap.size, 0, none⟩) 1 1)).run Tryz.prog (w.alloc (.cells #[.int .u8 y] 5)) = .ok (.string ⟨#[c]⟩) (w.alloc (.cells #[.int .u8 y] 5)) := by
  have := conv_text (w.alloc (.cells #[.int .u8 y] 5)) w.heap.size 1 1 [c] #[.int .u8 y] 5 (0, 0) (heap_alloc_new w _) (by subst hy; simp [byteCells]) rfl
  exact this

set_option maxHeartbeats 1000000 in
theorem markText_any (k : Nat) (w : World) (h0 : 1 ≤ k) (h1 : k ≤ 1000000000000000) :
    Calls Tryz.prog 33 #[.int .i64 k] w fun e w' => e = .returned (.string (markB k)) ∧ Below w.heap.size w w' := by
  have HL := lenD_le 16 k (by omega)
  have HD : Hid (lenD k ≤ 16) := HL
  unfold markB
  obtain ⟨D, hD⟩ : ∃ D, D = decG k ⟨#[]⟩ := ⟨_, rfl⟩
  rw [← hD]
  have HE : Hid (decG k ⟨#[]⟩ = D) := hD.symm
  clear hD HL
  have hk0 : ¬ (k : Int) ≤ 0 := by omega
  go_enter Tryz.func33, Tryz.ntmps33
  go_wp2
  go_loopw [0, 3] (fun x o wr => ∃ (j : Nat) (t : ByteArray), j ≤ 1000000000000000 ∧ x = .int .i64 j ∧ o = .string t ∧ t.size + lenD j ≤ 16 ∧ decG j t = D ∧ Below w.heap.size w wr) (fun x _ _ => (RowKit.intOf x).toNat)
  case atStart => exact ⟨k, ⟨#[]⟩, by omega, rfl, rfl, by have := HD.out; show 0 + lenD k ≤ 16; omega, HE.out, Below.refl _ _⟩
  case round =>
    obtain ⟨j, t, hj, rfl, rfl, ht, hd, hb⟩ := hrel
    by_cases hj0 : 0 < j
    · rw [decG_more hj0] at hd
      rw [lenD_more hj0] at ht
      have HS : Hid (decG (j / 10) (⟨#[UInt8.ofNat (48 + j % 10)]⟩ ++ t) = D ∧ (⟨#[UInt8.ofNat (48 + j % 10)]⟩ ++ t : ByteArray).size + lenD (j / 10) ≤ 16 ∧ Below w.heap.size w wr) := ⟨hd, by rw [ByteArray.size_append]; show 1 + t.size + lenD (j / 10) ≤ 16; omega, hb⟩
      have htz : t.size ≤ 16 := by omega
      have hc : ∀ W : World, (convert 87 9 (.slice (some ⟨W.heap.size, 0, none⟩) 1 1)).run Tryz.prog (W.alloc (.cells #[.int .u8 (48 + (j : Int) % 10)] 5)) = .ok (.string ⟨#[UInt8.ofNat (48 + j % 10)]⟩) (W.alloc (.cells #[.int .u8 (48 + (j : Int) % 10)] 5)) := fun W => conv_one W _ _ (by
        have : (UInt8.ofNat (48 + j % 10)).toNat = 48 + j % 10 := by
          rw [UInt8.toNat_ofNat']
          omega
        rw [this]
        omega)
      have hjI : (0 : Int) < (j : Int) := by omega
      generalize UInt8.ofNat (48 + j % 10) = c at *
      clear hd ht hb HD HE
      have hcw := hc wr
      clear hc
      go_wp2
      go_roundw
      case rel => exact ⟨j / 10, _, by omega, by go_num, rfl, HS.out.2.1, HS.out.1, HS.out.2.2.alloc HS.out.2.2.size _⟩
      case measure => simp [RowKit.intOf]; omega
    · have ej : j = 0 := by omega
      subst ej
      rw [decG_zero] at hd
      subst hd
      have H2 : Hid (Below w.heap.size w wr) := hb
      have htz : t.size ≤ 16 := by omega
      clear hb ht HE HD
      go_wp2
      go_ret
      exact ⟨rfl, H2.out⟩

theorem ret_num {a b : Int} (h : a = b) : Ending.returned (.int .i64 a) = .returned (.int .i64 b) := by rw [h]
/-- n marks from k on. -/
def marks (k n : Nat) : List ByteArray := (List.range n).map fun j => markB (k + j)
theorem marks_len (k n : Nat) : (marks k n).length = n := by simp [marks]
theorem marks_succ (k n : Nat) : marks k (n + 1) = marks k n ++ [markB (k + n)] := by simp [marks, List.range_succ]
theorem marks_at {k n j : Nat} (h : j < (marks k n).length) : (marks k n)[j] = markB (k + j) := by simp [marks]
theorem marks_set (k j : Nat) (l : List ByteArray) (h : j < l.length) : (marks k j ++ l.drop j).set j (markB (k + j)) = marks k (j + 1) ++ l.drop (j + 1) := by
  have hl := marks_len k j
  rw [marks_succ, List.append_assoc, List.set_append_right _ _ (by omega), hl, Nat.sub_self, List.drop_eq_getElem_cons h, List.set_cons_zero]
  rfl

theorem row_below {w w' : World} (h : Below w.heap.size w w') (row : Option Nat) : w.grownBy w' row := ⟨h.os, h.tape, h.output, h.size, fun k hk _ => h.block k hk⟩
theorem row_trans {a b c : World} {row : Option Nat} (h : a.grownBy b row) (k : b.grownBy c row) : a.grownBy c row := ⟨k.os.trans h.os, k.tape.trans h.tape, k.output.trans h.output, Nat.le_trans h.size k.size, fun i hi hr => (k.block i (Nat.lt_of_lt_of_le hi h.size) hr).trans (h.block i hi hr)⟩
theorem OwnT.below_of {w w' : World} {B : Nat} {v : Value} {l : List ByteArray} (h : OwnT w B v l) (hg : w.grownBy w' v.ownBlock) (hB : B ≤ w.heap.size) : Below B w w' :=
  ⟨hg.os, hg.tape, hg.output, hg.size, fun k hk => hg.block k (by omega) (fun e => by
    have := (World.ownsRow.lt h k e.symm).1
    omega)⟩
set_option maxHeartbeats 1000000 in
theorem mark_any (v : Value) (l : List ByteArray) (k : Nat) (w : World) (B : Nat) (h : OwnT w B v l) (hk0 : 1 ≤ k) (hk1 : k ≤ 100000000000000) (hl : l.length ≤ 100000000) :
    Calls Tryz.prog 30 #[v, .int .i64 k] w fun e w' => e = .returned (.int .i64 ((k + l.length : Nat) : Int)) ∧ OwnT w' B v (marks k l.length) ∧ w.grownBy w' v.ownBlock := by
  obtain ⟨n, hn⟩ : ∃ n, n = l.length := ⟨_, rfl⟩
  have HN : Hid (n = l.length) := hn
  obtain ⟨a, cap, rfl⟩ := h.len
  have HV : Hid (n = 0 ∨ ∃ g, a = some ⟨g, 0, none⟩) := by
    rcases id h with ⟨h1, ⟨e, h2⟩ | ⟨g, cap, cur, e, _⟩⟩
    · exact .inl (by omega)
    · simp at e
      exact .inr ⟨g, e.1⟩
  have HO : Hid (OwnT w B (.slice a l.length cap) l) := h
  rw [← hn] at hl HO ⊢
  clear hn h
  go_enter Tryz.func30, Tryz.ntmps30
  go_wp2
  go_loopw [1, 5] (fun x i wr => ∃ j : Nat, j ≤ n ∧ x = .int .i64 ((k + j : Nat) : Int) ∧ i = .int .i64 j ∧ OwnT wr B (.slice a n cap) (marks k j ++ l.drop j) ∧ w.grownBy wr (Value.slice a n cap).ownBlock) (fun _ i _ => n - (RowKit.intOf i).toNat)
  case atStart => exact ⟨0, Nat.zero_le _, rfl, rfl, by simpa [marks] using HO.out, row_below (Below.refl _ _) _⟩
  case round =>
    obtain ⟨j, hj, rfl, rfl, hown, hg⟩ := hrel
    have hkj : ((k + j : Nat) : Int) = (k : Int) + (j : Int) := by omega
    by_cases hjn : j < n
    · have hjl : j < l.length := by rw [← HN.out]; exact hjn
      rcases HV.out with h0 | ⟨g, rfl⟩
      · omega
      have E : Hid (Calls Tryz.prog 33 #[.int .i64 ((k : Int) + (j : Int))] wr fun e w' => e = .returned (.string (markB (k + j))) ∧ Below wr.heap.size wr w') := by
        rw [← hkj]
        exact markText_any (k + j) wr (by omega) (by omega)
      have HS : Hid ((marks k j ++ l.drop j).set j (markB (k + j)) = marks k (j + 1) ++ l.drop (j + 1)) := marks_set k j l hjl
      have hlen : (marks k j ++ l.drop j).length = n := by
        rw [List.length_append, marks_len, List.length_drop, ← HN.out]
        omega
      have H1 : Hid (OwnT wr B (.slice (some ⟨g, 0, none⟩) n cap) (marks k j ++ l.drop j) ∧ w.grownBy wr (some g) ∧ (marks k j ++ l.drop j).length = n) := ⟨hown, hg, hlen⟩
      have hjnI : (j : Int) < (n : Int) := by omega
      generalize markB (k + j) = M at *
      clear hown hg hlen HO HV
      go_wp2_with fail
      refine E.out.mono ?_
      rintro e w1 ⟨rfl, hb1⟩
      have hown1 := H1.out.1.below hb1 (Nat.le_refl _)
      obtain ⟨hc, hf⟩ := hown1.cell H1.out.2.2 j (by have := H1.out.2.2; omega)
      have H2 : Hid (OwnT (w1.setCell ⟨g, j, none⟩ (.string M)) B (.slice (some ⟨g, 0, none⟩) n cap) (marks k (j + 1) ++ l.drop (j + 1)) ∧ w.grownBy (w1.setCell ⟨g, j, none⟩ (.string M)) (some g)) := by
        obtain ⟨h1, h2⟩ := hown1.store H1.out.2.2 j M
        rw [HS.out] at h1
        exact ⟨h1, row_trans H1.out.2.1 (row_trans (row_below hb1 _) h2)⟩
      generalize (marks k j ++ l.drop j)[j]'(by have := H1.out.2.2; omega) = u at *
      clear hown1 hb1 E H1 HS
      go_wp2
      go_roundw
      case rel => exact ⟨j + 1, by omega, by go_num, by go_num, H2.out.1, H2.out.2⟩
      case measure => simp [RowKit.intOf]; omega
    · have ej : j = n := by omega
      have H1 : Hid (OwnT wr B (.slice a n cap) (marks k n) ∧ w.grownBy wr (Value.slice a n cap).ownBlock) := by
        rw [ej, List.drop_eq_nil_of_le (by rw [← HN.out]; omega), List.append_nil] at hown
        exact ⟨hown, hg⟩
      have hjnI : ¬ (j : Int) < (n : Int) := by omega
      clear hown hg HO HV
      go_wp2
      go_ret
      exact ⟨ret_num (by omega), H1.out.1, H1.out.2⟩

set_option maxHeartbeats 1000000 in
theorem held_any (v : Value) (k n : Nat) (w : World) (B : Nat) (h : OwnT w B v (marks k n)) (hk0 : 1 ≤ k) (hk1 : k ≤ 100000000000000) (hl : n ≤ 100000000) :
    Calls Tryz.prog 34 #[v, .int .i64 k] w fun e w' => e = .returned (.int .i64 ((k + n : Nat) : Int)) ∧ Below w.heap.size w w' := by
  obtain ⟨a, cap, hv, hcap, hc⟩ := h.texts.at
  rw [marks_len] at hv
  subst hv
  have HC : Hid (∀ j, j < n → ∃ b off, a = some ⟨b, off, none⟩ ∧ b < w.heap.size ∧ w.cell? ⟨b, off + j, none⟩ = some (.string (markB (k + j)))) := fun j hj => by
    have hj' : j < (marks k n).length := by rw [marks_len]; exact hj
    obtain ⟨b, off, h1, h2, h3⟩ := hc j hj'
    rw [marks_at hj'] at h3
    exact ⟨b, off, h1, h2, h3⟩
  clear hc hcap h
  go_enter Tryz.func34, Tryz.ntmps34
  go_wp2
  go_loopw [1, 5] (fun x i wr => ∃ j : Nat, j ≤ n ∧ x = .int .i64 ((k + j : Nat) : Int) ∧ i = .int .i64 j ∧ Below w.heap.size w wr) (fun _ i _ => n - (RowKit.intOf i).toNat)
  case atStart => exact ⟨0, Nat.zero_le _, rfl, rfl, Below.refl _ _⟩
  case round =>
    obtain ⟨j, hj, rfl, rfl, hb⟩ := hrel
    have hkj : ((k + j : Nat) : Int) = (k : Int) + (j : Int) := by omega
    by_cases hjn : j < n
    · obtain ⟨b, off, rfl, hB, hc0⟩ := HC.out j hjn
      have E : Hid (∀ wr, Calls Tryz.prog 33 #[.int .i64 ((k : Int) + (j : Int))] wr fun e w' => e = .returned (.string (markB (k + j))) ∧ Below wr.heap.size wr w') := by
        intro wr
        rw [← hkj]
        exact markText_any (k + j) wr (by omega) (by omega)
      have hc : wr.drew.cell? ⟨b, off + j, none⟩ = some (.string (markB (k + j))) := (hb.cell (p := ⟨b, off + j, none⟩) hB).trans hc0
      have hcR : wr.cell? ⟨b, off + j, none⟩ = some (.string (markB (k + j))) := hc
      have H1 : Hid (Below w.heap.size w wr) := hb
      have hBr : b < wr.heap.size := Nat.lt_of_lt_of_le hB hb.size
      have hjnI : (j : Int) < (n : Int) := by omega
      generalize markB (k + j) = M at *
      clear hb hc0 HC
      go_wp2
      go_region_with (go_at_call 33; refine (E.out _).mono ?_; rintro e w1 ⟨rfl, hb1⟩; have hc1 : w1.cell? ⟨b, off + j, none⟩ = some (.string M) := ((hb1.cell (p := ⟨b, off + j, none⟩) hBr).trans hcR); have H2 : Hid (Below w.heap.size w w1) := H1.out.trans (below_drew (hb1.mono H1.out.size)); clear hb1)
      all_goals
        go_wp2
        go_roundw
        case rel => exact ⟨j + 1, by omega, by go_num, by go_num, H2.out⟩
        case measure => simp [RowKit.intOf]; omega
    · have H1 : Hid (Below w.heap.size w wr) := hb
      have hjnI : ¬ (j : Int) < (n : Int) := by omega
      clear hb HC
      go_wp2
      go_ret
      exact ⟨ret_num (by omega), H1.out⟩
end Go.Proofs.YtcenlgfopmahcaaGreatDoor

/-
  What the exact laws of functions that answer rows of texts hold in between: both answers, apart from each other.
-/
namespace Go.Proofs.YtcenlgfopmahcaaGreatDoor
open Go.RowKit Go.Lib
set_option linter.unusedVariables false

/-- Behind the calls: the document's answer v2 lies ahead of n3, the program's answer g0 is its own, behind n4. -/
def Mid (w wX : World) (n3 n4 : Nat) (v2 g0 : Value) (L gl : List ByteArray) : Prop :=
  Below w.heap.size w wX ∧ w.heap.size ≤ n3 ∧ n3 < n4 ∧ n4 ≤ wX.heap.size ∧ Texts wX n3 v2 L ∧ OwnT wX n4 g0 gl
theorem Mid.below {w wX wY : World} {n3 n4 : Nat} {v2 g0 : Value} {L gl : List ByteArray} (h : Mid w wX n3 n4 v2 g0 L gl) (hb : Below wX.heap.size wX wY) : Mid w wY n3 n4 v2 g0 L gl := by
  obtain ⟨h1, h2, h3, h4, h5, h6⟩ := h
  exact ⟨h1.trans (hb.mono h1.size), h2, h3, Nat.le_trans h4 hb.size, h5.below (hb.mono (by omega)), h6.below hb (Nat.le_refl _)⟩
theorem Mid.markX {w wX wY : World} {n3 n4 : Nat} {v2 g0 x0 : Value} {L gl xl : List ByteArray} (h : Mid w wX n3 n4 v2 g0 L gl) (hx : OwnT wX n3 x0 xl) (hxb : x0.ownBlock = some n3) (hg : wX.grownBy wY x0.ownBlock) : Mid w wY n3 n4 v2 g0 L gl := by
  obtain ⟨h1, h2, h3, h4, h5, h6⟩ := h
  have hb : Below n3 wX wY := hx.below_of hg (by omega)
  rw [hxb] at hg
  exact ⟨h1.trans (hb.mono h2), h2, h3, Nat.le_trans h4 hb.size, h5.below hb, h6.grown hg h3⟩
theorem Mid.markG {w wX wY : World} {n3 n4 : Nat} {v2 g0 : Value} {L gl gl' : List ByteArray} (h : Mid w wX n3 n4 v2 g0 L gl) (hg : wX.grownBy wY g0.ownBlock) (ho : OwnT wY n4 g0 gl') : Mid w wY n3 n4 v2 g0 L gl' := by
  obtain ⟨h1, h2, h3, h4, h5, h6⟩ := h
  have hb : Below n4 wX wY := h6.below_of hg h4
  exact ⟨h1.trans (hb.mono (by omega)), h2, h3, Nat.le_trans h4 hb.size, h5.below (hb.mono (by omega)), ho⟩
theorem Mid.answers {w wX : World} {n3 n4 : Nat} {v2 g0 : Value} {L gl : List ByteArray} (h : Mid w wX n3 n4 v2 g0 L gl) : Texts wX wX.heap.size v2 L ∧ Texts wX wX.heap.size g0 gl := by
  obtain ⟨h1, h2, h3, h4, h5, h6⟩ := h
  exact ⟨h5.up (by omega), h6.texts⟩
end Go.Proofs.YtcenlgfopmahcaaGreatDoor
