/-
  Is a head of a watch's log, and good under its key? The document's test.
-/
import Derived.Test.YtpglcbidfghfkabGreatDoorPkSpecVerify
import Derived.Test.YtpglcbidfghfkabGreatDoorPkSigned
import Derived.Test.YtpglcbidfghfkabGreatDoorPkCopyHead
namespace Go.Proofs.YtpglcbidfghfkabGreatDoor
open Go.RowKit Go.Lib
set_option linter.unusedVariables false
set_option linter.unusedSimpArgs false

set_option maxHeartbeats 4000000 in
set_option maxRecDepth 10000 in
theorem specGood_any (t : Wt) (a0 a1 a2 ap a3 a4 a5 a6 a7 : Option Addr) (m0 m1 m2 mp m3 m4 m5 m6 m7 c0 c1 c2 cp c3 c4 c5 c6 c7 : Nat) (x : Hd) (ve vp : Value) (w : World) (hx : x.In ve vp w w.heap.size) (hl : x.Lim) (hn : x.Num) (hk : t.key.size ≤ 1048576) :
    Calls Tryz.prog 41 #[.agg #[.string t.log, .string t.key, .slice a0 m0 c0, .string t.h.log, .int .i64 t.h.size, .string t.h.root, .int .i64 t.h.time, .int .i64 t.h.k, .slice a1 m1 c1, .slice a2 m2 c2, .slice ap mp cp, .bool t.found, .string t.a.log, .int .i64 t.a.size, .string t.a.root, .int .i64 t.a.time, .int .i64 t.a.k, .slice a3 m3 c3, .slice a4 m4 c4, .string t.b.log, .int .i64 t.b.size, .string t.b.root, .int .i64 t.b.time, .int .i64 t.b.k, .slice a5 m5 c5, .slice a6 m6 c6, .slice a7 m7 c7], .agg #[.string x.log, .int .i64 x.size, .string x.root, .int .i64 x.time, .int .i64 x.k, ve, vp]] w fun e w' => e = .returned (.bool (sgB t.log t.key x)) ∧ Below w.heap.size w w' := by
  obtain ⟨a, c, b, d, rfl, rfl⟩ := hx.parts
  obtain ⟨W, hW⟩ : ∃ W, W = (w.alloc (.cells #[.string t.log, .string t.key, .slice a0 m0 c0, .string t.h.log, .int .i64 t.h.size, .string t.h.root, .int .i64 t.h.time, .int .i64 t.h.k, .slice a1 m1 c1, .slice a2 m2 c2, .slice ap mp cp, .bool t.found, .string t.a.log, .int .i64 t.a.size, .string t.a.root, .int .i64 t.a.time, .int .i64 t.a.k, .slice a3 m3 c3, .slice a4 m4 c4, .string t.b.log, .int .i64 t.b.size, .string t.b.root, .int .i64 t.b.time, .int .i64 t.b.k, .slice a5 m5 c5, .slice a6 m6 c6, .slice a7 m7 c7] 41)).alloc (.cells #[.string x.log, .int .i64 x.size, .string x.root, .int .i64 x.time, .int .i64 x.k, .slice a x.el.length c, .slice b x.pl.length d] 36) := ⟨_, rfl⟩
  have hbW : Below w.heap.size w W := by rw [hW]; exact ((Below.refl _ _).alloc (Nat.le_refl _) _).alloc (by simp) _
  have E0 : Hid (Calls Tryz.prog 69 #[.string t.key, .agg #[.string x.log, .int .i64 x.size, .string x.root, .int .i64 x.time, .int .i64 x.k, .slice a x.el.length c, .slice b x.pl.length d]] W fun e w' => e = .returned (.bool (headGB t.key x.log x.size x.root x.time x.k x.el x.pl)) ∧ Below W.heap.size W w') := specHeadGood_any t.key x.log x.root x.size x.time x.k _ _ x.el x.pl W (hx.on hbW).1 (hx.on hbW).2 hl.2.2.1 hl.2.2.2 hl.1 hl.2.1 hk hn.1 hn.2
  have H0 : Hid (Below w.heap.size w W) := hbW
  have HW : Hid (W = (w.alloc (.cells #[.string t.log, .string t.key, .slice a0 m0 c0, .string t.h.log, .int .i64 t.h.size, .string t.h.root, .int .i64 t.h.time, .int .i64 t.h.k, .slice a1 m1 c1, .slice a2 m2 c2, .slice ap mp cp, .bool t.found, .string t.a.log, .int .i64 t.a.size, .string t.a.root, .int .i64 t.a.time, .int .i64 t.a.k, .slice a3 m3 c3, .slice a4 m4 c4, .string t.b.log, .int .i64 t.b.size, .string t.b.root, .int .i64 t.b.time, .int .i64 t.b.k, .slice a5 m5 c5, .slice a6 m6 c6, .slice a7 m7 c7] 41)).alloc (.cells #[.string x.log, .int .i64 x.size, .string x.root, .int .i64 x.time, .int .i64 x.k, .slice a x.el.length c, .slice b x.pl.length d] 36)) := hW
  clear hx hl hn hk hW hbW
  unfold sgB
  generalize headGB t.key x.log x.size x.root x.time x.k x.el x.pl = G at *
  cases hq : (x.log.toList == t.log.toList) with
  | false =>
    clear E0
    go_enter Tryz.func41, Tryz.ntmps41
    go_wp2
    rw [← HW.out]
    go_ret
    exact ⟨rfl, H0.out⟩
  | true =>
    go_enter Tryz.func41, Tryz.ntmps41
    go_wp2_with fail
    rw [← HW.out]
    refine E0.out.mono ?_
    rintro e w1 ⟨rfl, hb⟩
    have H1 : Hid (Below w.heap.size w w1) := H0.out.trans (hb.mono H0.out.size)
    clear hb E0 H0 HW
    go_wp2
    go_ret
    exact ⟨rfl, H1.out⟩
end Go.Proofs.YtpglcbidfghfkabGreatDoor
