/-
  The program's chains taken further, each as far as a closure tells.
-/
import Derived.Test.YtchlopmmhcobdagDoorChain
namespace Go.Proofs.YtchlopmmhcobdagDoor
open Go.RowKit Go.Lib
set_option linter.unusedVariables false
set_option linter.unusedSimpArgs false

set_option maxHeartbeats 1000000 in
set_option maxRecDepth 10000 in
theorem takenSign_any (f : Nat → ByteArray) (m : Nat → Nat) (d : Nat) (w : World) (hf : ∀ j, j < 6 → (f j).size = 32) (hm : ∀ j, j < 6 → m j ≤ 15) (hK : Keys w)
    (EF : ∀ (k : Nat) (W : World), k < 6 → Below w.heap.size w W → Calls Tryd.prog 27 #[.int .i64 k, .pointer (some ⟨d, 0, none⟩)] W fun e W' => e = .returned (.int .i64 (m k : Nat)) ∧ W' = W) :
    Calls Tryd.prog 29 #[.agg (cellsT 6 f), .func (.func 27) #[] #[.pointer (some ⟨d, 0, none⟩)]] w fun e w' => e = .returned (.agg (cellsT 6 fun j => stepsB (m j) (f j))) ∧ Below w.heap.size w w' := by
  have HEF : Hid (∀ (k : Nat) (W : World), k < 6 → Below w.heap.size w W → Calls Tryd.prog 27 #[.int .i64 k, .pointer (some ⟨d, 0, none⟩)] W fun e W' => e = .returned (.int .i64 (m k : Nat)) ∧ W' = W) := EF
  have HF : Hid (∀ j, j < 6 → (f j).size = 32) := hf
  have HM : Hid (∀ j, j < 6 → m j ≤ 15) := hm
  have HK : Hid (Keys w ∧ 0 < w.heap.size) := ⟨hK, hK.lt⟩
  have hmf : ∀ (fn : Fn) (first cap : Array Value) (w : World), (Instr.makeFunc fn first cap).run Tryd.prog w = .ok (.func fn first cap) w := fun _ _ _ _ => rfl
  clear EF hf hm hK
  go_enter Tryd.func29, Tryd.ntmps29
  go_wp2
  go_loopw [7] (fun x wr => ∃ k : Nat, k ≤ 6 ∧ x = .int .i64 k ∧ TakenAt w wr (tk f m k 0)) (fun x _ => 6 - (intOf x).toNat)
  case atStart =>
    refine ⟨0, by omega, rfl, ?_⟩
    refine TakenAt.congr ⟨heap_alloc2_old w _ _, heap_alloc2_new w _ _, ((Below.refl _ _).alloc (Nat.le_refl _) _).alloc (by simp) _, ?_⟩ (tk_start f m)
    exact HK.out.1.below (((Below.refl w.heap.size w).alloc (Nat.le_refl _) _).alloc (by simp) _) HK.out.2
  case round =>
    obtain ⟨k, hk, rfl, hT⟩ := hrel
    by_cases hlt : k < 6
    · have HT : Hid (TakenAt w wr (tk f m k 0)) := hT
      have EK := HEF.out k wr hlt hT.2.2.1
      have hmk := HM.out k hlt
      have HN : Hid (∀ j, j < 6 → tk f m (k + 1) 0 j = tk f m k (m k) j) := tk_next f m k
      obtain ⟨mk, hM⟩ : ∃ mk, mk = m k := ⟨_, rfl⟩
      rw [← hM] at EK hmk HN
      have HE : Hid (Calls Tryd.prog 27 #[.int .i64 k, .pointer (some ⟨d, 0, none⟩)] wr fun e W' => e = .returned (.int .i64 (mk : Nat)) ∧ W' = wr) := EK
      clear EK hM hT
      have hkI : (k : Int) < 6 := by omega
      have hk0 : (0 : Int) ≤ (k : Int) := by omega
      go_wp2_with fail
      refine HE.out.mono ?_
      rintro e w0 ⟨rfl, rfl⟩
      go_wp2
      go_loopw [16] (fun x wr => ∃ i : Nat, i ≤ mk ∧ x = .int .i64 i ∧ TakenAt w wr (tk f m k i)) (fun x _ => mk - (intOf x).toNat)
      case atStart => exact ⟨0, by omega, rfl, HT.out⟩
      case round =>
        clear HT HE
        obtain ⟨i, hi, rfl, hT⟩ := hrel
        have HT : Hid (TakenAt w wr (tk f m k i)) := hT
        by_cases hil : i < mk
        · have hl := hT.lt
          obtain ⟨hc, hfz⟩ := rowT_cell hT.1 (j := k) hlt
          have E := step_any w.heap.size k (tk f m k i k) wr hc hfz (by omega) (tk_size m k i HF.out k hlt) hT.2.2.2
          have HE : Hid (Calls Tryd.prog 61 #[.pointer (some ⟨w.heap.size, k, none⟩)] wr fun e w' => e = .returned (.tuple #[]) ∧ ∃ w1, Below wr.heap.size wr w1 ∧ w' = w1.setCell ⟨w.heap.size, k, none⟩ (.string (shaB (tk f m k i k)))) := E
          have HP : Hid (∀ w1, Below wr.heap.size wr w1 → TakenAt w (w1.setCell ⟨w.heap.size, k, none⟩ (.string (shaB (tk f m k i k)))) (tk f m k (i + 1))) := fun w1 hb => hT.put hb k _ HK.out.2 (tk_step f m k i)
          have hiI : (i : Int) < (mk : Int) := by omega
          clear E hc hfz hT hl HT
          go_wp2_with fail
          refine HE.out.mono ?_
          rintro e w2 ⟨rfl, w1, hb, rfl⟩
          have HT2 := HP.out w1 hb
          have HT3 : Hid (TakenAt w (w1.setCell ⟨w.heap.size, k, none⟩ (.string (shaB (tk f m k i k)))) (tk f m k (i + 1))) := HT2
          generalize w1.setCell ⟨w.heap.size, k, none⟩ (.string (shaB (tk f m k i k))) = w3 at *
          clear hb HT2 HP HE
          go_wp2
          go_roundw
          case rel => exact ⟨i + 1, by omega, by go_num, HT3.out⟩
          case measure => simp [intOf]; omega
        · have ei : i = mk := by omega
          have HT2 : Hid (TakenAt w wr (tk f m (k + 1) 0)) := hT.congr (by rw [ei]; exact HN.out)
          have hiI : ¬ (i : Int) < (mk : Int) := by omega
          clear hT HT ei
          go_wp2
          go_roundw
          case rel => exact ⟨k + 1, by omega, by go_num, HT2.out⟩
          case measure => simp [intOf]; omega
    · have e6 : k = 6 := by omega
      have hT6 := hT.congr (g := fun j => stepsB (m j) (f j)) (by rw [e6]; exact fun j hj => (tk_end f m j hj).symm)
      obtain ⟨h1, h2, h3, h4⟩ := hT6
      have hkI : ¬ (k : Int) < 6 := by omega
      clear hT e6 h4 HEF HF HM HK
      obtain ⟨g, hg⟩ : ∃ g, g = fun j => stepsB (m j) (f j) := ⟨_, rfl⟩
      rw [← hg] at h1
      have HG : Hid (g = fun j => stepsB (m j) (f j)) := hg
      clear hg
      go_wp2_with (first | (refine wpList_load_row rfl 47 (.tmp 2) rfl w.heap.size rfl _ _ _ _ h1 Tryd.underlying47 rfl (by rw [cellsT_size]; exact info6) ?_) | (refine wpList_store_row rfl 47 (.tmp 4) (.tmp 22) rfl (w.heap.size + 1) _ rfl rfl _ _ h2 (by rw [cellsT_size]; exact info6) (by rw [cellsT_size, cellsT_size]) (cellsT_one _ _) ?_))
      exact bodyPost_ret (results_cell_row Tryd.results29 _ _ (w.heap.size + 1) _ _ _ _ rfl (setRow_heap wr _ _ _ _ _ h2) Tryd.underlying47 rfl (by rw [cellsT_size]; exact info6)) rfl ⟨ret_agg (by rw [HG.out]), below_setRow h3 (by omega) _⟩
end Go.Proofs.YtchlopmmhcobdagDoor
