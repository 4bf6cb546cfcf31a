/-
  The map of the heads that wait, as a list: their sizes rise.
-/
import Derived.Test.YtcenlgfopmahcaaGreatDoorPkWatchOf
import Derived.Test.YtcenlgfopmahcaaGreatDoorPkSigned
import Derived.Test.YtcenlgfopmahcaaGreatDoorPkCopyHead
import Derived.Lib.SlKeysI
import Derived.Deep.MidRow
namespace Go.Proofs.YtcenlgfopmahcaaGreatDoor
open Go.RowKit Go.Lib Go.Maps
set_option linter.unusedVariables false
set_option linter.unusedSimpArgs false

/-- The entries that hold the heads. -/
def ents (l : List Hv) : List (Lit × DataW Value) := l.map fun q => (.int .i64 q.x.size, .held q.val)
/-- Their sizes rise from last on. -/
def Rising : Int → List Hv → Prop
  | _, [] => True
  | last, q :: r => last < q.x.size ∧ Rising q.x.size r
theorem Rising.lower {a b : Int} {l : List Hv} (h : Rising b l) (hab : a ≤ b) : Rising a l := by
  cases l with
  | nil => trivial
  | cons q r => exact ⟨Int.lt_of_le_of_lt hab h.1, h.2⟩
theorem Rising.all {last : Int} {l : List Hv} (h : Rising last l) : ∀ q ∈ l, last < q.x.size := by
  induction l generalizing last with
  | nil => intro q hq; simp at hq
  | cons p r ih =>
    intro q hq
    rcases List.mem_cons.1 hq with rfl | hq
    · exact h.1
    · exact ih (h.2.lower (Int.le_of_lt h.1)) q hq
theorem poolB_rising {lg ky : ByteArray} {last : Int} {l : List Hv} (h : poolB lg ky last l = true) : Rising last l := by
  induction l generalizing last with
  | nil => trivial
  | cons q r ih =>
    unfold poolB at h
    rw [Bool.and_eq_true_iff, Bool.and_eq_true_iff] at h
    exact ⟨of_decide_eq_true h.1, ih h.2.2⟩
theorem insert_last {H : Type} (x : Lit × DataW H) : ∀ (es : List (Lit × DataW H)), (∀ p ∈ es, x.1.before p.1 = false) → DataW.insert x es = es ++ [x]
  | [], _ => rfl
  | p :: r, h => by
    unfold DataW.insert
    rw [if_neg (by rw [h p (List.mem_cons_self ..)]; simp), insert_last x r (fun q hq => h q (List.mem_cons_of_mem _ hq))]
    rfl
theorem put_last {H : Type} {es : List (Lit × DataW H)} {z : Int} {d : DataW H} (h : ∀ p ∈ es, ∃ a, p.1 = .int .i64 a ∧ a < z) : (DataW.map es).put (.int .i64 z) d = .map (es ++ [(.int .i64 z, d)]) := by
  rw [DataW.put_eq]
  unfold ChangeMaps.putKey
  have hf : es.filter (ChangeMaps.notKey (.int .i64 z)) = es := List.filter_eq_self.2 fun p hp => by
    obtain ⟨a, ha, hlt⟩ := h p hp
    unfold ChangeMaps.notKey
    rw [ha]
    have : ¬ a = z := by omega
    simp [Lit.sameKey, this]
  rw [hf, insert_last _ es (fun p hp => by
    obtain ⟨a, ha, hlt⟩ := h p hp
    rw [ha]
    have : ¬ z < a := by omega
    simp [Lit.before, this])]
theorem poolD_foldl : ∀ (r l : List Hv) (last : Int), (∀ q ∈ l, q.x.size ≤ last) → Rising last r → r.foldl (fun D q => DataW.put D (.int .i64 q.x.size) (.held q.val)) (.map (ents l)) = .map (ents (l ++ r))
  | [], l, last, _, _ => by simp
  | q :: r, l, last, h, hr => by
    rw [List.foldl_cons, put_last (fun p hp => by
      obtain ⟨q', hq', rfl⟩ := List.mem_map.1 hp
      exact ⟨q'.x.size, rfl, Int.lt_of_le_of_lt (h q' hq') hr.1⟩)]
    have e : ents l ++ [(.int .i64 q.x.size, .held q.val)] = ents (l ++ [q]) := by simp [ents]
    rw [e, poolD_foldl r (l ++ [q]) q.x.size (fun q' hq' => by
      rcases List.mem_append.1 hq' with hq' | hq'
      · exact Int.le_trans (h q' hq') (Int.le_of_lt hr.1)
      · have : q' = q := by simpa using hq'
        rw [this]
        exact Int.le_refl _) hr.2, List.append_assoc]
    rfl
/-- The map of heads whose sizes rise. -/
theorem poolD_rising {l : List Hv} {last : Int} (h : Rising last l) : poolD l = .map (ents l) := by
  have := poolD_foldl l [] last (fun q hq => absurd hq (by simp)) h
  simpa [poolD, ents] using this
theorem poolD_size {l : List Hv} {last : Int} (h : Rising last l) : Maps.size (poolD l) = l.length := by
  rw [poolD_rising h]
  simp [Maps.size, ents]
theorem poolD_keys {l : List Hv} {last : Int} (h : Rising last l) : intKeys (poolD l) = l.map fun q => q.x.size := by
  rw [poolD_rising h]
  show (ents l).map _ = _
  unfold ents
  rw [List.map_map]
  rfl
/-- What rises is sorted already. -/
theorem sort_rising : ∀ {l : List Hv} {last : Int}, Rising last l → (l.map fun q => q.x.size).Pairwise (fun x y => (decide (x ≤ y)) = true)
  | [], _, _ => List.Pairwise.nil
  | q :: r, _, h => List.Pairwise.cons (fun y hy => by
      obtain ⟨q', hq', rfl⟩ := List.mem_map.1 hy
      exact decide_eq_true (Int.le_of_lt (h.2.all q' hq'))) (sort_rising h.2)
theorem sizes_sorted {l : List Hv} {last : Int} {ss : List Int} (h : Rising last l) (hp : ss.Perm (intKeys (poolD l))) : ss.mergeSort (fun x y => decide (x ≤ y)) = l.map fun q => q.x.size := by
  rw [poolD_keys h] at hp
  have h1 : (ss.mergeSort (fun x y => decide (x ≤ y))).Perm (l.map fun q => q.x.size) := (List.mergeSort_perm ss _).trans hp
  have h2 : (ss.mergeSort (fun x y => decide (x ≤ y))).Pairwise (fun x y => (decide (x ≤ y)) = true) := List.pairwise_mergeSort (fun a b c hab hbc => by simp at *; omega) (fun a b => by simp; omega) ss
  exact h1.eq_of_pairwise (fun a b _ _ hab hba => by simp at *; omega) h2 (sort_rising h)
end Go.Proofs.YtcenlgfopmahcaaGreatDoor

/-
  Rows of heads that came in: their size; their copies.
-/
namespace Go.Proofs.YtcenlgfopmahcaaGreatDoor
open Go.RowKit Go.Lib
set_option linter.unusedVariables false
set_option linter.unusedSimpArgs false

theorem Hv.At.range {q : Hv} {w : World} {b o : Nat} (h : q.At w b o) : w.rangeAt b o q.cells := h
set_option maxHeartbeats 2000000 in
set_option maxRecDepth 10000 in
theorem szHeads_any (v : Value) (l : List Hv) (left : Int) (w : World) (h : HeadsArg w v l) (h0 : 0 ≤ left) (hle : left ≤ 1048576) :
    Calls Tryz.prog 15 #[v, .int .i64 left] w fun e w' => ∃ r : Int, e = .returned (.int .i64 r) ∧ -1048577 ≤ r ∧ r ≤ 1048576 ∧ (r < 0 ∨ HdsLim l) ∧ Below w.heap.size w w' := by
  obtain ⟨⟨⟨a, cap, rfl, hcap, hc⟩, hin⟩, hlen, harg⟩ := h
  have HC : Hid (l.length = 0 ∨ ∃ b off, a = some ⟨b, off, none⟩ ∧ b < w.heap.size ∧ ∀ j (hj : j < l.length), l[j].At w b (off + j * 7)) := hc
  have HA : Hid (∀ j (hj : j < l.length), l[j].x.Arg l[j].e l[j].p w) := harg
  clear hc hin harg hcap
  by_cases hlt : left - (l.length : Int) < 0
  · go_enter Tryz.func15, Tryz.ntmps15
    go_wp2
    go_ret
    exact ⟨-1, rfl, by omega, by omega, .inl (by omega), Below.refl _ _⟩
  obtain ⟨n, hn⟩ : ∃ n, n = l.length := ⟨_, rfl⟩
  have HN : Hid (n = l.length) := hn
  rw [← hn] at hlen hlt ⊢
  clear hn
  go_enter Tryz.func15, Tryz.ntmps15
  go_wp2
  go_loopw [1, 5] (fun x i wr => ∃ (k : Nat) (r : Int), k ≤ n ∧ i = .int .i64 k ∧ x = .int .i64 r ∧ 0 ≤ r ∧ r ≤ 1048576 ∧ (∀ j (hj : j < l.length), j < k → l[j].x.Lim) ∧ Below w.heap.size w wr) (fun _ i _ => n - (RowKit.intOf i).toNat)
  case atStart => exact ⟨0, _, Nat.zero_le _, rfl, rfl, by omega, by omega, fun j _ h => by omega, Below.refl _ _⟩
  case round =>
    obtain ⟨k, r, hk, rfl, rfl, hr0, hr1, hall, hb⟩ := hrel
    have HL : Hid (∀ j (hj : j < l.length), j < k → l[j].x.Lim) := hall
    have HB : Hid (Below w.heap.size w wr) := hb
    clear hall hb
    by_cases hkn : k < n
    · have hkl : k < l.length := by rw [← HN.out]; exact hkn
      rcases HC.out with h0 | ⟨b, off, rfl, hB, hat⟩
      · omega
      have hrange : wr.rangeAt b (off + k * 7) l[k].cells := ((hat k hkl).same (HB.out.block b hB)).range
      have E0 : Hid (Calls Tryz.prog 14 #[.agg l[k].cells.toArray, .int .i64 r] wr fun e w' => ∃ r : Int, e = .returned (.int .i64 r) ∧ -1048577 ≤ r ∧ r ≤ 1048576 ∧ (r < 0 ∨ l[k].x.Lim) ∧ Below wr.heap.size wr w') := szHd_any l[k].x _ _ r wr ((HA.out k hkl).on HB.out) hr0 hr1
      have HL2 : Hid (l[k].x.Lim → ∀ j (h : j < l.length), j < k + 1 → l[j].x.Lim) := fun hr j h hj => by
        by_cases e : j = k
        · subst e; exact hr
        · exact HL.out j h (by omega)
      have hknI : (k : Int) < (n : Int) := by omega
      have hc7 : l[k].cells.length = 7 := rfl
      generalize l[k].cells = cs at *
      generalize l[k].x = x at *
      clear HC HA HN HL hat
      go_wp2_with (refine wpList_load_mid rfl 26 (.tmp 20) rfl b (off + k * 7) rfl cs _ hrange Tryz.underlying26 rfl (by rw [hc7]; kernel_rfl) ?_)
      refine E0.out.mono ?_
      rintro e w1 ⟨r1, rfl, p0, p1, q1, hb1⟩
      have Q1 : Hid (r1 < 0 ∨ x.Lim) := q1
      have B1 : Hid (Below w.heap.size w w1) := HB.out.trans (hb1.mono HB.out.size)
      clear q1 hb1 E0 hrange HB
      by_cases n1 : r1 < 0
      · go_wp2
        go_ret
        exact ⟨-1, rfl, by omega, by omega, .inl (by omega), B1.out⟩
      · go_wp2
        go_roundw
        case rel => exact ⟨k + 1, _, by omega, by go_num, rfl, by omega, by omega, HL2.out (Q1.out.resolve_left (by omega)), B1.out⟩
        case measure => simp [RowKit.intOf]; omega
    · have HF : Hid (HdsLim l) := ⟨by rw [← HN.out]; omega, fun j h => HL.out j h (by have := HN.out; omega)⟩
      clear HL HN HC HA
      go_wp2
      go_ret
      exact ⟨r, rfl, by omega, by omega, .inr HF.out, HB.out⟩
end Go.Proofs.YtcenlgfopmahcaaGreatDoor
