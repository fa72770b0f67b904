/- A path beside the document's own: do they stand alike? Conditions: those stated in each theorem. -/
import Derived.Test.YthepmejfgbfilaaSoftT3
namespace Go.Proofs.Ythepmejfgbfilaa
open Go.RowKit Go.BigFrame Go.Maps

section
variable {w0 w : World} {p q b c : Nat} {y : PV} {m : Int → Int}
theorem busy_code {x : RW} (h2 : Rel y x) : y.busy = (x.code != 0) := by
  unfold PV.busy
  by_cases hat : y.at_ = .no
  · rw [hat, h2.at_.no.1 hat]; rfl
  · have hcn : x.code ≠ 0 := fun e => hat (h2.at_.no.2 e)
    rw [show (y.at_ != .no) = true by simpa using hat, show (x.code != 0) = true by simpa using hcn]

set_option maxRecDepth 100000 in
set_option maxHeartbeats 4000000 in
theorem same_any (h : Aparts w0 w [pathP p y, refP q y, memP b c m])  : Calls Try.prog 12 #[.pointer (some ⟨p, 0, none⟩), .pointer (some ⟨q, 0, none⟩)] w fun e w' => e = .returned (.bool true) ∧ Below w.heap.size w w' := by
  obtain ⟨T, hp, -⟩ := h.get (i := 0) rfl
  obtain ⟨T2, hr, -⟩ := h.get (i := 1) rfl
  have HA : Hid (Calls Try.prog 18 #[.pointer (some ⟨p, 0, none⟩)] w fun e w' => e = .returned (.tuple #[.agg #[.int .i64 y.req.op, .int .i64 y.req.addr, .int .u64 y.req.value, .int .u64 y.req.old], .bool y.busy]) ∧ Below w.heap.size w w') := Lib.hid (swant hp)
  have HB : Hid (∀ V, Below w.heap.size w V → Calls Try.prog 42 #[.pointer (some ⟨q, 0, none⟩)] V fun e w' => e = .returned (.tuple #[.agg #[.int .i64 y.req.op, .int .i64 y.req.addr, .int .u64 y.req.value, .int .u64 y.req.old], .bool y.busy]) ∧ Below V.heap.size V w') := Lib.hid (fun V hb => rwant (RAt.frame (C := fun _ => False) hr (Tch.of_idle hb) (fun _ _ e => e)))
  obtain ⟨x, rv, wv, h1, h2, -⟩ := hr
  obtain ⟨cd, hcd⟩ : ∃ cd, x.code = cd := ⟨_, rfl⟩
  have hb : y.busy = (cd != 0) := by rw [← hcd]; exact busy_code h2
  have K := Lib.hid (And.intro h (And.intro hp (And.intro h1 h2)))
  clear h hp h1 h2
  go_enter Try.func12, Try.ntmps12
  go_wp2_with (first | (go_at_call 18; refine HA.out.mono ?_; rintro e V ⟨rfl, hb1⟩; have HV1 : Hid (Below w.heap.size w (V.alloc (.cells #[.int .i64 y.req.op, .int .i64 y.req.addr, .int .u64 y.req.value, .int .u64 y.req.old] 48)) ∧ Holds (V.alloc (.cells #[.int .i64 y.req.op, .int .i64 y.req.addr, .int .u64 y.req.value, .int .u64 y.req.old] 48)) V.heap.size 48 [.int .i64 y.req.op, .int .i64 y.req.addr, .int .u64 y.req.value, .int .u64 y.req.old]) := Lib.hid ⟨hb1.alloc hb1.size _, Holds.new V _ _⟩; clear hb1) | (go_at_call 42; refine (HB.out _ HV1.out.1).mono ?_; rintro e V2 ⟨rfl, hb2⟩; have HV2 : Hid (Below w.heap.size w (V2.alloc (.cells #[.int .i64 y.req.op, .int .i64 y.req.addr, .int .u64 y.req.value, .int .u64 y.req.old] 48)) ∧ Holds (V2.alloc (.cells #[.int .i64 y.req.op, .int .i64 y.req.addr, .int .u64 y.req.value, .int .u64 y.req.old] 48)) V.heap.size 48 [.int .i64 y.req.op, .int .i64 y.req.addr, .int .u64 y.req.value, .int .u64 y.req.old] ∧ Holds (V2.alloc (.cells #[.int .i64 y.req.op, .int .i64 y.req.addr, .int .u64 y.req.value, .int .u64 y.req.old] 48)) V2.heap.size 48 [.int .i64 y.req.op, .int .i64 y.req.addr, .int .u64 y.req.value, .int .u64 y.req.old]) := Lib.hid ⟨(HV1.out.1.trans (hb2.mono HV1.out.1.size)).alloc (Nat.le_trans HV1.out.1.size hb2.size) _, (HV1.out.2.below hb2).alloc _, Holds.new V2 _ _⟩; clear hb2))
  obtain ⟨hw2, hX1, hX2⟩ := HV2.out
  clear HV1 HV2 HA HB
  generalize V2.alloc (.cells #[.int .i64 y.req.op, .int .i64 y.req.addr, .int .u64 y.req.value, .int .u64 y.req.old] 48) = W2 at *
  generalize V.heap.size = X1 at *
  generalize V2.heap.size = X2 at *
  obtain ⟨h, hp, h1, h2⟩ := K.out
  have HS : Hid (∀ V, Below W2.heap.size W2 V → V.cell? ⟨q, 0, none⟩ = some (.int .i64 cd) ∧ V.cell? ⟨q, 9, none⟩ = some (.int .u64 y.val) ∧ V.cell? ⟨q, 12, none⟩ = some (.bool y.live) ∧ V.cell? ⟨q, 13, none⟩ = some (.bool y.writing) ∧ V.cell? ⟨q, 14, none⟩ = some (.int .i64 y.ended) ∧ V.cell? ⟨q, 15, none⟩ = some (.int .i64 y.pts) ∧ V.cell? ⟨X1, 0, none⟩ = some (.int .i64 y.req.op) ∧ V.cell? ⟨X1, 1, none⟩ = some (.int .i64 y.req.addr) ∧ V.cell? ⟨X1, 2, none⟩ = some (.int .u64 y.req.value) ∧ V.cell? ⟨X1, 3, none⟩ = some (.int .u64 y.req.old) ∧ V.cell? ⟨X2, 0, none⟩ = some (.int .i64 y.req.op) ∧ V.cell? ⟨X2, 1, none⟩ = some (.int .i64 y.req.addr) ∧ V.cell? ⟨X2, 2, none⟩ = some (.int .u64 y.req.value) ∧ V.cell? ⟨X2, 3, none⟩ = some (.int .u64 y.req.old)) := Lib.hid (fun V hb => by
    have k1 := (h1.below (hw2.trans (hb.mono hw2.size))).head
    have k2 := hX1.below hb
    have k3 := hX2.below hb
    have d0 := k1.cell (i := 0) rfl
    have d9 := k1.cell (i := 9) rfl
    have d12 := k1.cell (i := 12) rfl
    have d13 := k1.cell (i := 13) rfl
    have d14 := k1.cell (i := 14) rfl
    have d15 := k1.cell (i := 15) rfl
    rw [hcd] at d0
    rw [h2.val] at d9
    rw [h2.live] at d12
    rw [h2.writing] at d13
    rw [h2.ended] at d14
    rw [h2.pts] at d15
    exact ⟨d0, d9, d12, d13, d14, d15, k2.cell (i := 0) rfl, k2.cell (i := 1) rfl, k2.cell (i := 2) rfl, k2.cell (i := 3) rfl, k3.cell (i := 0) rfl, k3.cell (i := 1) rfl, k3.cell (i := 2) rfl, k3.cell (i := 3) rfl⟩)
  have HBusy : Hid (∀ V, Below W2.heap.size W2 V → Calls Try.prog 23 #[.pointer (some ⟨p, 0, none⟩)] V fun e w' => e = .returned (.bool y.busy) ∧ V = w') := Lib.hid (fun V hb => sbusy (SAt.below hp (hw2.trans (hb.mono hw2.size))))
  have HLive : Hid (∀ V, Below W2.heap.size W2 V → Calls Try.prog 24 #[.pointer (some ⟨p, 0, none⟩)] V fun e w' => e = .returned (.bool y.live) ∧ V = w') := Lib.hid (fun V hb => slive (SAt.below hp (hw2.trans (hb.mono hw2.size))))
  have HWriting : Hid (∀ V, Below W2.heap.size W2 V → Calls Try.prog 27 #[.pointer (some ⟨p, 0, none⟩)] V fun e w' => e = .returned (.bool y.writing) ∧ V = w') := Lib.hid (fun V hb => swriting (SAt.below hp (hw2.trans (hb.mono hw2.size))))
  have HValue : Hid (∀ V, Below W2.heap.size W2 V → Calls Try.prog 25 #[.pointer (some ⟨p, 0, none⟩)] V fun e w' => e = .returned (.int .u64 y.val) ∧ V = w') := Lib.hid (fun V hb => svalue (SAt.below hp (hw2.trans (hb.mono hw2.size))))
  have HEnded : Hid (∀ V, Below W2.heap.size W2 V → Calls Try.prog 20 #[.pointer (some ⟨p, 0, none⟩)] V fun e w' => e = .returned (.int .i64 y.ended) ∧ V = w') := Lib.hid (fun V hb => sended (SAt.below hp (hw2.trans (hb.mono hw2.size))))
  have HPoints : Hid (∀ V, Below W2.heap.size W2 V → Calls Try.prog 26 #[.pointer (some ⟨p, 0, none⟩)] V fun e w' => e = .returned (.int .i64 y.pts) ∧ V = w') := Lib.hid (fun V hb => spoints (SAt.below hp (hw2.trans (hb.mono hw2.size))))
  rw [hb] at HBusy
  have HLi : Hid (∀ V, Below W2.heap.size W2 V → Calls Try.prog 43 #[.pointer (some ⟨p, 0, none⟩), .pointer (some ⟨q, 0, none⟩)] V fun e w' => e = .returned (.bool true) ∧ Below W2.heap.size W2 w') := Lib.hid (fun V hb => (lists_any (h.idle (hw2.trans (hb.mono hw2.size))) (i := 0) (j := 1) rfl rfl).mono fun e w' ⟨e1, k⟩ => ⟨e1, hb.trans (k.mono hb.size)⟩)
  have HF : Hid (∀ V, Below W2.heap.size W2 V → Below w.heap.size w V) := Lib.hid (fun V hb => hw2.trans (hb.mono hw2.size))
  clear h hp h1 h2 hX1 hX2 hw2 K
  have hB := below_drew1 (Below.refl W2.heap.size W2)
  simp only [List.append]
  go_region_held3 (fun V => V.cell? ⟨q, 0, none⟩ = some (.int .i64 cd) ∧ V.cell? ⟨q, 9, none⟩ = some (.int .u64 y.val) ∧ V.cell? ⟨q, 12, none⟩ = some (.bool y.live) ∧ V.cell? ⟨q, 13, none⟩ = some (.bool y.writing) ∧ V.cell? ⟨q, 14, none⟩ = some (.int .i64 y.ended) ∧ V.cell? ⟨q, 15, none⟩ = some (.int .i64 y.pts) ∧ V.cell? ⟨X1, 0, none⟩ = some (.int .i64 y.req.op) ∧ V.cell? ⟨X1, 1, none⟩ = some (.int .i64 y.req.addr) ∧ V.cell? ⟨X1, 2, none⟩ = some (.int .u64 y.req.value) ∧ V.cell? ⟨X1, 3, none⟩ = some (.int .u64 y.req.old) ∧ V.cell? ⟨X2, 0, none⟩ = some (.int .i64 y.req.op) ∧ V.cell? ⟨X2, 1, none⟩ = some (.int .i64 y.req.addr) ∧ V.cell? ⟨X2, 2, none⟩ = some (.int .u64 y.req.value) ∧ V.cell? ⟨X2, 3, none⟩ = some (.int .u64 y.req.old)) (first | with_reducible exact HS.out _ hB) (first | (go_at_call 23; (with_reducible refine (HBusy.out _ hB).mono ?_); rintro e V ⟨rfl, rfl⟩) | (go_at_call 24; (with_reducible refine (HLive.out _ hB).mono ?_); rintro e V ⟨rfl, rfl⟩) | (go_at_call 27; (with_reducible refine (HWriting.out _ hB).mono ?_); rintro e V ⟨rfl, rfl⟩) | (go_at_call 25; (with_reducible refine (HValue.out _ hB).mono ?_); rintro e V ⟨rfl, rfl⟩) | (go_at_call 20; (with_reducible refine (HEnded.out _ hB).mono ?_); rintro e V ⟨rfl, rfl⟩) | (go_at_call 26; (with_reducible refine (HPoints.out _ hB).mono ?_); rintro e V ⟨rfl, rfl⟩) | (go_at_call 43; (with_reducible refine (HLi.out _ hB).mono ?_); rintro e V ⟨rfl, hB⟩))
  all_goals
    have HB := Lib.hid (HF.out _ hB)
    go_wp2
    go_ret
    exact ⟨by simp, HB.out⟩
end

end Go.Proofs.Ythepmejfgbfilaa
