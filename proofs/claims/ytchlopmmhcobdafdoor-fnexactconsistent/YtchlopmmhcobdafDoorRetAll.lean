/-
  The program retraces every proof as the plain mathematics says.
-/
import Derived.Test.YtchlopmmhcobdafDoorRetrace
namespace Go.Proofs.YtchlopmmhcobdafDoor
open Go.RowKit Go.Lib
set_option linter.unusedVariables false

theorem retrace_any (j : Nat) : ∀ (pr : List ByteArray), pr.length = j → j ≤ 1000 → (∀ i (hi : i < pr.length), pr[i].size ≤ 1000) → ∀ (was : ByteArray) (m n : Nat) (x y : Int) (wh : Bool) (v : Value) (w : World), was.size ≤ 1000 → x = (m : Int) → y = (n : Int) → 1 ≤ m → m ≤ n → n ≤ 9223372036854775807 → Texts w w.heap.size v pr → Keys w →
    Calls Tryd.prog 38 #[.int .i64 x, .int .i64 y, .bool wh, v, .string was] w fun e w' => RetAns (retB was pr.reverse m n wh) e ∧ Below w.heap.size w w' := by
  induction j with
  | zero =>
    intro pr hj hj1 hz was m n x y wh v w hwas hx hy h1 hmn hn h hK
    subst hx hy
    obtain rfl := List.eq_nil_of_length_eq_zero hj
    by_cases hw : m = n ∧ wh = true
    · obtain ⟨rfl, rfl⟩ := hw
      exact ret_first was m [] v w hn (by simp) h
    · exact ret_empty was m n wh v w hn hmn hw h
  | succ j ih =>
    intro pr hj hj1 hz was m n x y wh v w hwas hx hy h1 hmn hn h hK
    subst hx hy
    by_cases hw : m = n ∧ wh = true
    · obtain ⟨rfl, rfl⟩ := hw
      exact ret_first was m pr v w hn (by omega) h
    have hne : pr ≠ [] := by rintro rfl; simp at hj
    obtain ⟨r, p, rfl⟩ : ∃ r p, pr = r ++ [p] := ⟨pr.dropLast, pr.getLast hne, (List.dropLast_concat_getLast hne).symm⟩
    have hr : r.length = j := by simpa using hj
    rw [List.reverse_append, List.reverse_singleton, List.singleton_append]
    have hzr : ∀ i (hi : i < r.length), r[i].size ≤ 1000 := fun i hi => by
      have := hz i (by simp; omega)
      rwa [List.getElem_append_left hi] at this
    have hzp : p.size ≤ 1000 := by
      have := hz r.length (by simp)
      rwa [List.getElem_append_right (Nat.le_refl _), List.getElem_singleton] at this
    have hzR : ∀ t ∈ r.reverse, t.size ≤ 1000 := fun t ht => by
      obtain ⟨i, hi, rfl⟩ := List.getElem_of_mem (List.mem_reverse.1 ht)
      exact hzr i hi
    obtain ⟨v1, hs1, ht1⟩ := slice_h h j (by rw [hj]; omega) (j : Int) rfl
    rw [List.take_left' hr] at ht1
    have hclast : ∃ b off, (∃ cap, v = .slice (some ⟨b, off, none⟩) (j + 1) cap) ∧ b < w.heap.size ∧ w.cell? ⟨b, off + j, none⟩ = some (.string p) := by
      obtain ⟨a, cap, hv, hcap, hc⟩ := h.at
      obtain ⟨b, off, rfl, hB, hcell⟩ := hc j (by rw [hj]; omega)
      rw [hj] at hv
      refine ⟨b, off, ⟨cap, hv⟩, hB, ?_⟩
      rw [hcell]
      congr 2
      subst hr
      simp
    obtain ⟨b, off, ⟨cap, rfl⟩, hB, hcp⟩ := hclast
    by_cases hmn2 : m = n
    · subst hmn2
      have hwf : wh = false := by simpa using hw
      subst hwf
      exact ret_here was p r.reverse m j b off cap w hn (by omega) (by rw [List.length_reverse, hr]) hB hcp
    have hmlt : m < n := by omega
    obtain ⟨ex, he, hk1, hk2⟩ := half_spec (show 2 ≤ n by omega)
    have hp := Nat.two_pow_pos ex
    by_cases hk : m ≤ half n
    · refine ret_left was p (retB was r.reverse m (half n) wh).1.1 (retB was r.reverse m (half n) wh).1.2 (retB was r.reverse m (half n) wh).2 m n (half n) j b off cap wh v1 w _ hn h1 hmlt hk1 hk (by omega) hB hcp hs1 (fun w => splitOf_any n w (by omega) hn) (fun W hb => ?_) (fun W hb => ?_) ?_
      · have hrec := ih r hr (by omega) hzr was m (half n) m (half n : Nat) wh v1 W hwas rfl rfl h1 hk (by omega) ((ht1.below hb).up hb.size) (hK.below hb hK.lt)
        exact hrec
      · have hs := retB_size was hwas r.reverse m (half n) wh hzR
        exact withRight_any _ _ p W hs.2 hzp (hK.below hb hK.lt)
      · exact ret_is (retR_left nodeB ByteArray.empty was p r.reverse wh (by omega) hk)
    · refine ret_right was p (retB was r.reverse (m - half n) (n - half n) false).1.1 (retB was r.reverse (m - half n) (n - half n) false).1.2 (retB was r.reverse (m - half n) (n - half n) false).2 m n (half n) j b off cap wh v1 w _ hn h1 hmlt hk1 hk (by omega) hB hcp hs1 (fun w => splitOf_any n w (by omega) hn) (fun W hb => ?_) (fun W hb => ?_) ?_
      · have hrec := ih r hr (by omega) hzr was (m - half n) (n - half n) _ _ false v1 W hwas (show (m : Int) - (half n : Int) = ((m - half n : Nat) : Int) by omega) (show (n : Int) - (half n : Int) = ((n - half n : Nat) : Int) by omega) (by omega) (by omega) (by omega) ((ht1.below hb).up hb.size) (hK.below hb hK.lt)
        exact hrec
      · have hs := retB_size was hwas r.reverse (m - half n) (n - half n) false hzR
        exact withLeft_any _ _ p W hs.1 hs.2 hzp (hK.below hb hK.lt)
      · exact ret_is (retR_right nodeB ByteArray.empty was p r.reverse wh (by omega) hk)
end Go.Proofs.YtchlopmmhcobdafDoor
