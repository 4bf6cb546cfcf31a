/-
  The draws of chapter 5: a seed.
-/
import Derived.Test.YtpglcbidfghfkaaGreatDoorPkDrawSome
import Derived.Test.YtpglcbidfghfkaaGreatDoorPkDraw
import Derived.Deep.RegionWith
namespace Go.Proofs.YtpglcbidfghfkaaGreatDoor
open Go.RowKit Go.Lib
set_option linter.unusedVariables false
set_option linter.unusedSimpArgs false

/-- A text of at most m bytes; the source stays one, and nothing else has turned. -/
def ShortAns (m : Nat) (q : Nat) (w : World) (e : Ending) (w' : World) : Prop := ∃ t : ByteArray, e = .returned (.string t) ∧ t.size ≤ m ∧ Src w' q ∧ w.grownBy w' (some q)
theorem ShortAns.after {m q : Nat} {w w1 w' : World} {e : Ending} (h : ShortAns m q w1 e w') (hg : w.grownBy w1 (some q)) : ShortAns m q w e w' := by
  obtain ⟨t, h1, h2, h3, h4⟩ := h
  exact ⟨t, h1, h2, h3, grown_trans hg h4⟩
theorem three_texts (w : World) (a b c : ByteArray) : ∀ j (hj : j < [a, b, c].length), (w.alloc (.cells #[.string a, .string b, .string c] 9)).cell? ⟨w.heap.size, j, none⟩ = some (.string [a, b, c][j]) := fun j hj => by
  rw [cell_of_row _ _ j _ _ _ (heap_alloc_new w _)]
  have : j = 0 ∨ j = 1 ∨ j = 2 := by simp at hj; omega
  rcases this with rfl | rfl | rfl <;> rfl
/-- A row of zeros is made and turned to a text, in whatever world. -/
theorem zeros_row (n : Nat) (hn : n ≤ 1073741824) : ∃ Z : Obj, (∀ w : World, (Instr.makeSlice 22 (.int .i64 (n : Int)) (.int .i64 (n : Int))).run Tryz.prog w = .ok (.slice (some ⟨w.heap.size, 0, none⟩) n n) (w.alloc Z)) ∧
    ∀ (w : World) (b : Nat), w.heap[b]? = some Z → (convert 22 9 (.slice (some ⟨b, 0, none⟩) n n)).run Tryz.prog w = .ok (.string ⟨(List.replicate n 0).toArray⟩) w := by
  obtain ⟨i0, hi, hz0, hz1, hz2⟩ := info_parts infoByte
  refine ⟨.cells (madeCells (Value.int IntKind.u8 0).cells (n * i0.size)) 5, fun w => ?_, fun w b hb => ?_⟩
  · have h := run_make (P := Tryz.prog) w 22 5 i0 (.int .u8 0) Tryz.underlying22 hi hz0 .i64 .i64 n n (by omega) (by omega) (by rw [hz2]; omega) (by omega)
    simp only [Int.toNat_natCast] at h
    exact h
  · refine conv_text _ b n n (List.replicate n 0) (madeCells (Value.int IntKind.u8 0).cells (n * i0.size)) _ _ hb ?_ (by simp)
    have e : (madeCells (Value.int IntKind.u8 0).cells (n * i0.size)).toList = List.replicate n (.int .u8 0) := by
      rw [hz1, Nat.mul_one]; exact toList_madeCells_one _ _
    rw [e, List.take_of_length_le (by simp)]
    simp [byteCells]

set_option maxHeartbeats 2000000 in
set_option maxRecDepth 10000 in
theorem seed_any (q : Nat) (w : World) (h : Src w q) :
    Calls Tryz.prog 55 #[.pointer (some ⟨q, 0, none⟩)] w fun e w' => ShortAns 65 q w e w' := by
  have EO : Hid (∀ w', Src w' q → Calls Tryz.prog 59 #[.pointer (some ⟨q, 0, none⟩), .int .i64 12] w' fun e w'' => BoolAns q w' e w'') := fun w' h => one_any q 12 w' h (by omega)
  have EP : Hid (∀ (a b c : ByteArray) w', Src w' q → a.size ≤ 65 → b.size ≤ 65 → c.size ≤ 65 → Calls Tryz.prog 57 #[.pointer (some ⟨q, 0, none⟩), .slice (some ⟨w'.heap.size, 0, none⟩) 3 3] (w'.alloc (.cells #[.string a, .string b, .string c] 9)) fun e w'' => ShortAns 65 q w' e w'') := fun a b c w' h ha hb hc =>
    (pick_any q w'.heap.size [a, b, c] _ (h.below ((Below.refl _ _).alloc (Nat.le_refl _) _) h.lt) (by simp) (by simp) h.lt (three_texts w' a b c)).mono fun e w'' ⟨t, h1, h2, h3, h4⟩ => ⟨t, h1, by
      simp at h2
      rcases h2 with rfl | rfl | rfl <;> assumption, h3, grown_trans (World.grownBy_alloc w' _ _) h4⟩
  have HS : Hid (Src w q) := h
  clear h
  go_enter Tryz.func55, Tryz.ntmps55
  go_wp2_with fail
  refine (EO.out _ HS.out).mono ?_
  rintro e w1 ⟨b, rfl, hs1, hg1⟩
  have H1 : Hid (Src w1 q ∧ w.grownBy w1 (some q)) := ⟨hs1, hg1⟩
  clear hs1 hg1
  cases b with
  | false =>
    go_wp2_with fail
    refine (EP.out _ _ _ _ H1.out.1 (by decide) (by decide) (by decide)).mono ?_
    intro e w2 hA
    have HA : Hid (ShortAns 65 q w e w2) := hA.after H1.out.2
    obtain ⟨t, rfl, _⟩ := hA
    go_wp2
    go_ret
    exact HA.out
  | true =>
    obtain ⟨Z1, mk1, cv1⟩ := zeros_row 64 (by omega)
    obtain ⟨Z2, mk2, cv2⟩ := zeros_row 65 (by omega)
    have n64 : (⟨(List.replicate 64 0).toArray⟩ : ByteArray).size ≤ 65 := by simp [ByteArray.size]
    have n65 : (⟨(List.replicate 65 0).toArray⟩ : ByteArray).size ≤ 65 := by simp [ByteArray.size]
    have x1 := cv1 (w1.alloc Z1).drew w1.heap.size (heap_alloc_new w1 Z1)
    have x2 := cv2 (w1.alloc Z2).drew w1.heap.size (heap_alloc_new w1 Z2)
    have x3 := cv1 ((w1.alloc Z1).alloc Z2).drew w1.heap.size ((heap_alloc_old (w1.alloc Z1) Z2 (by simp)).trans (heap_alloc_new w1 Z1))
    have x4 := cv2 ((w1.alloc Z2).alloc Z1).drew w1.heap.size ((heap_alloc_old (w1.alloc Z2) Z1 (by simp)).trans (heap_alloc_new w1 Z2))
    have y5 := heap_alloc_new (w1.alloc Z1) Z2
    have y6 := heap_alloc_new (w1.alloc Z2) Z1
    rw [show (w1.alloc Z1).heap.size = w1.heap.size + 1 by simp] at y5
    rw [show (w1.alloc Z2).heap.size = w1.heap.size + 1 by simp] at y6
    have x5 := cv2 ((w1.alloc Z1).alloc Z2).drew (w1.heap.size + 1) y5
    have x6 := cv1 ((w1.alloc Z2).alloc Z1).drew (w1.heap.size + 1) y6
    clear y5 y6
    have hgr : ∀ A B : Obj, Src ((w1.alloc A).alloc B).drew q ∧ w.grownBy ((w1.alloc A).alloc B).drew (some q) := fun A B => by
      have hb : Below w1.heap.size w1 ((w1.alloc A).alloc B).drew := below_drew' (((Below.refl _ _).alloc (Nat.le_refl _) _).alloc (by simp) _)
      exact ⟨H1.out.1.below hb H1.out.1.lt, grown_below H1.out.2 (hb.mono H1.out.2.size)⟩
    have G12 := hgr Z1 Z2
    have G21 := hgr Z2 Z1
    generalize (⟨(List.replicate 64 0).toArray⟩ : ByteArray) = T1 at *
    generalize (⟨(List.replicate 65 0).toArray⟩ : ByteArray) = T2 at *
    have P12 := EP.out ⟨#[]⟩ T1 T2 _ G12.1 (by decide) n64 n65
    have P21 := EP.out ⟨#[]⟩ T1 T2 _ G21.1 (by decide) n64 n65
    have hz12 : ((w1.alloc Z1).alloc Z2).drew.heap.size = w1.heap.size + 1 + 1 := by simp
    have hz21 : ((w1.alloc Z2).alloc Z1).drew.heap.size = w1.heap.size + 1 + 1 := by simp
    rw [hz12] at P12
    rw [hz21] at P21
    have HP12 : Hid (Calls Tryz.prog 57 #[.pointer (some ⟨q, 0, none⟩), .slice (some ⟨w1.heap.size + 1 + 1, 0, none⟩) 3 3] (((w1.alloc Z1).alloc Z2).alloc (.cells #[.string ⟨#[]⟩, .string T1, .string T2] 9)).drew fun e w'' => ShortAns 65 q w e w'') := P12.mono fun e w' h => h.after G12.2
    have HP21 : Hid (Calls Tryz.prog 57 #[.pointer (some ⟨q, 0, none⟩), .slice (some ⟨w1.heap.size + 1 + 1, 0, none⟩) 3 3] (((w1.alloc Z2).alloc Z1).alloc (.cells #[.string ⟨#[]⟩, .string T1, .string T2] 9)).drew fun e w'' => ShortAns 65 q w e w'') := P21.mono fun e w' h => h.after G21.2
    have mk1' : ∀ w : World, (Instr.makeSlice 22 (.int .i64 64) (.int .i64 64)).run Tryz.prog w = .ok (.slice (some ⟨w.heap.size, 0, none⟩) 64 64) (w.alloc Z1) := mk1
    have mk2' : ∀ w : World, (Instr.makeSlice 22 (.int .i64 65) (.int .i64 65)).run Tryz.prog w = .ok (.slice (some ⟨w.heap.size, 0, none⟩) 65 65) (w.alloc Z2) := mk2
    clear cv1 cv2 hgr G12 G21 P12 P21 hz12 hz21 mk1 mk2 n64 n65
    go_wp2_with fail
    go_region_with (first
      | (go_at_call 57; (with_reducible refine HP12.out.mono ?_); intro e w2 hA; have HA : Hid (ShortAns 65 q w e w2) := hA; obtain ⟨t, rfl, _⟩ := hA)
      | (go_at_call 57; (with_reducible refine HP21.out.mono ?_); intro e w2 hA; have HA : Hid (ShortAns 65 q w e w2) := hA; obtain ⟨t, rfl, _⟩ := hA))
    all_goals
      go_wp2
      go_ret
      exact HA.out

end Go.Proofs.YtpglcbidfghfkaaGreatDoor

/-
  The draws of chapter 6: a seed, a key, a log's name, entries and a time.
-/
namespace Go.Proofs.YtpglcbidfghfkaaGreatDoor
open Go.RowKit Go.Lib
set_option linter.unusedVariables false
set_option linter.unusedSimpArgs false

theorem Code.later {w w' : World} {a : Option Addr} {len : Nat} (h : Code w w.heap.size a len) (hb : Below w.heap.size w w') : Code w' w'.heap.size a len := by
  rcases h with h | ⟨b, off, ha, hbq, hc⟩
  · exact .inl h
  · refine .inr ⟨b, off, ha, Nat.lt_of_lt_of_le hbq hb.size, fun i hi => ?_⟩
    obtain ⟨c, x0, x1, x2⟩ := hc i hi
    exact ⟨c, x0, x1, (hb.cell (p := ⟨b, off + i, none⟩) hbq).trans x2⟩
/-- What HeadSign is drawn of; of what was there nothing has turned. -/
def HeadSAns (w : World) (e : Ending) (w' : World) : Prop := ∃ (s : ByteArray) (k : Int) (lg : ByteArray) (v : Value) (l : List ByteArray) (t : Int), e = .returned (.tuple #[.string s, .int .i64 k, .string lg, v, .int .i64 t]) ∧ s.size ≤ 65 ∧ -1 ≤ k ∧ k ≤ 4 ∧ (1 ≤ lg.size ∧ lg.size ≤ 3) ∧ Texts w' w'.heap.size v l ∧ l.length ≤ 31 ∧ (-9223372036854775808 ≤ t ∧ t ≤ 9223372036854775807) ∧ Below w.heap.size w w'
set_option maxHeartbeats 4000000 in
set_option maxRecDepth 10000 in
theorem drawHeadS_any (a : Option Addr) (len cap : Nat) (w : World) (hc : Code w w.heap.size a len) (hl : len ≤ 1048576) :
    Calls Tryz.prog 7 #[.slice a len cap] w fun e w' => HeadSAns w e w' := by
  have E0 : Hid (Calls Tryz.prog 54 #[.slice a len cap] w fun e w' => PtrAns w e w') := source_any a len cap w hc hl
  have ES : Hid (∀ w', Src w' w.heap.size → Calls Tryz.prog 55 #[.pointer (some ⟨w.heap.size, 0, none⟩)] w' fun e w'' => ShortAns 65 w.heap.size w' e w'') := fun w' h => seed_any _ w' h
  have EN : Hid (∀ m w', Src w' w.heap.size → m ≤ 1000 → Calls Tryz.prog 56 #[.pointer (some ⟨w.heap.size, 0, none⟩), .int .i64 m] w' fun e w'' => NumAns m w.heap.size w' e w'') := fun m w' h hm => n_any _ m w' h (by omega)
  have EO : Hid (∀ w', Src w' w.heap.size → Calls Tryz.prog 59 #[.pointer (some ⟨w.heap.size, 0, none⟩), .int .i64 10] w' fun e w'' => BoolAns w.heap.size w' e w'') := fun w' h => one_any _ 10 w' h (by omega)
  have EM : Hid (∀ w', Src w' w.heap.size → Calls Tryz.prog 58 #[.pointer (some ⟨w.heap.size, 0, none⟩)] w' fun e w'' => SomeAns 101 w.heap.size w' e w'') := fun w' h => some_any _ w' h
  have EG : Hid (∀ w', Src w' w.heap.size → Calls Tryz.prog 60 #[.pointer (some ⟨w.heap.size, 0, none⟩)] w' fun e w'' => AnyAns w.heap.size w' e w'') := fun w' h => edge_any _ w' h
  have EP : Hid (∀ w', Src w' w.heap.size → Calls Tryz.prog 57 #[.pointer (some ⟨w.heap.size, 0, none⟩), .slice (some ⟨w'.heap.size, 0, none⟩) 3 3] (w'.alloc (.cells #[.string ⟨#[108, 111, 103]⟩, .string ⟨#[116, 119, 111]⟩, .string ⟨#[76]⟩] 9)) fun e w'' => ∃ t : ByteArray, e = .returned (.string t) ∧ (1 ≤ t.size ∧ t.size ≤ 3) ∧ Src w'' w.heap.size ∧ w'.grownBy w'' (some w.heap.size)) := fun w' h =>
    (pick_any w.heap.size w'.heap.size [⟨#[108, 111, 103]⟩, ⟨#[116, 119, 111]⟩, ⟨#[76]⟩] _ (h.below ((Below.refl _ _).alloc (Nat.le_refl _) _) h.lt) (by simp) (by simp) h.lt (three_texts w' _ _ _)).mono fun e w'' ⟨t, h1, h2, h3, h4⟩ => ⟨t, h1, by
      simp at h2
      rcases h2 with rfl | rfl | rfl <;> decide, h3, grown_trans (World.grownBy_alloc w' _ _) h4⟩
  clear hc
  go_enter Tryz.func7, Tryz.ntmps7
  go_wp2_with fail
  refine E0.out.mono ?_
  rintro e w1 ⟨rfl, hs1, hb1⟩
  have H1 : Hid (Src w1 w.heap.size ∧ Below w.heap.size w w1) := ⟨hs1, hb1⟩
  clear hs1 hb1 E0
  go_wp2_with fail
  refine (ES.out _ H1.out.1).mono ?_
  rintro e w2 ⟨s, rfl, hz2, hs2, hg2⟩
  have H2 : Hid (Src w2 w.heap.size ∧ Below w.heap.size w w2) := ⟨hs2, below_of_grown H1.out.2 hg2⟩
  have HZ : Hid (s.size ≤ 65) := hz2
  clear hz2 hs2 hg2 H1 ES
  go_wp2_with fail
  refine (EN.out _ _ H2.out.1 (by omega)).mono ?_
  rintro e w3 ⟨k, rfl, hk0, hk1, hs3, hg3⟩
  have H3 : Hid (Src w3 w.heap.size ∧ Below w.heap.size w w3) := ⟨hs3, below_of_grown H2.out.2 hg3⟩
  have hk5 : k ≤ 5 := by omega
  clear hs3 hg3 hk1 H2
  go_wp2_with fail
  refine (EP.out _ H3.out.1).mono ?_
  rintro e w4 ⟨lg, rfl, hlg, hs4, hg4⟩
  have H4 : Hid (Src w4 w.heap.size ∧ Below w.heap.size w w4) := ⟨hs4, below_of_grown H3.out.2 hg4⟩
  have HLG : Hid (1 ≤ lg.size ∧ lg.size ≤ 3) := hlg
  clear hs4 hg4 hlg H3 EP
  go_wp2_with fail
  refine (EM.out _ H4.out.1).mono ?_
  rintro e w5 ⟨v, l, rfl, ho5, hl5, _, hs5, hg5⟩
  obtain ⟨av, cv, rfl⟩ := ho5.len
  have H5 : Hid ((Src w5 w.heap.size ∧ Below w.heap.size w w5) ∧ OwnT w5 w4.heap.size (.slice av l.length cv) l ∧ w.heap.size < w4.heap.size) := ⟨⟨hs5, below_of_grown H4.out.2 hg5⟩, ho5, H4.out.1.lt⟩
  have HL5 : Hid (l.length ≤ 31) := hl5
  clear hs5 hg5 ho5 hl5 EM
  go_wp2_with fail
  refine (EO.out _ H5.out.1.1).mono ?_
  rintro e w6 ⟨b, rfl, hs6, hg6⟩
  have H6 : Hid ((Src w6 w.heap.size ∧ Below w.heap.size w w6) ∧ OwnT w6 w4.heap.size (.slice av l.length cv) l ∧ w.heap.size < w4.heap.size) := ⟨⟨hs6, below_of_grown H5.out.1.2 hg6⟩, H5.out.2.1.grown hg6 H5.out.2.2, H5.out.2.2⟩
  clear hs6 hg6 H5 EO H4
  cases b with
  | false =>
    go_wp2_with fail
    refine (EN.out _ _ H6.out.1.1 (by omega)).mono ?_
    rintro e w7 ⟨t, rfl, ht0, ht1, hs7, hg7⟩
    have H7 : Hid (Below w.heap.size w w7 ∧ Texts w7 w7.heap.size (.slice av l.length cv) l) := ⟨below_of_grown H6.out.1.2 hg7, (H6.out.2.1.grown hg7 H6.out.2.2).texts⟩
    have htt : -9223372036854775808 ≤ t ∧ t ≤ 9223372036854775807 := ⟨by omega, by omega⟩
    have HTT : Hid (-9223372036854775808 ≤ t ∧ t ≤ 9223372036854775807) := htt
    clear hs7 hg7 ht1 htt
    go_wp2
    exact bodyPost_ret (v := .tuple #[.string s, .int .i64 (k - 1), .string lg, .slice av l.length cv, .int .i64 t]) (by simp [results, Tryz.results7, go_sem]) rfl ⟨s, k - 1, lg, _, l, t, rfl, HZ.out, by omega, by omega, HLG.out, H7.out.2, HL5.out, HTT.out, H7.out.1⟩
  | true =>
    go_wp2_with fail
    refine (EG.out _ H6.out.1.1).mono ?_
    rintro e w7 ⟨t, rfl, ht0, ht1, hs7, hg7⟩
    have H7 : Hid (Below w.heap.size w w7 ∧ Texts w7 w7.heap.size (.slice av l.length cv) l) := ⟨below_of_grown H6.out.1.2 hg7, (H6.out.2.1.grown hg7 H6.out.2.2).texts⟩
    have HTT : Hid (-9223372036854775808 ≤ t ∧ t ≤ 9223372036854775807) := ⟨ht0, ht1⟩
    clear hs7 hg7 ht0 ht1
    go_wp2
    exact bodyPost_ret (v := .tuple #[.string s, .int .i64 (k - 1), .string lg, .slice av l.length cv, .int .i64 t]) (by simp [results, Tryz.results7, go_sem]) rfl ⟨s, k - 1, lg, _, l, t, rfl, HZ.out, by omega, by omega, HLG.out, H7.out.2, HL5.out, HTT.out, H7.out.1⟩
end Go.Proofs.YtpglcbidfghfkaaGreatDoor
