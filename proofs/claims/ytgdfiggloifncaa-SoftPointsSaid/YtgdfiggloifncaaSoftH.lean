/- A path: its calls. Conditions: those stated in each theorem. -/
import Derived.Test.YtgdfiggloifncaaSoftG
namespace Go.Proofs.Ytgdfiggloifncaa
open Go.RowKit Go.BigFrame Go.Maps Go.Shelf
attribute [local go_sem] run_store_func

section
variable {w w' W : World} {N M C S T : Nat → Prop} {p lg : Nat} {x y : PV} {z : PW} {v u th : Value} {t : Th} {a : At} {R : World → Prop} {f : Lg}
theorem SAt.open (h : SAt w T p x) : ∃ lg v, PB w p lg x.pw v ∧ FnV x.busy v ∧ ∃ S, LgAt w S lg x.log := by
  obtain ⟨lg, S, v, h1, h2, h3, h4, h5, h6⟩ := h
  exact ⟨lg, v, h1, h6.fn, S, h2⟩
theorem sshut (x : PV) : shutE x.busy x.pw = x.shut := by
  unfold shutE PV.shut PV.busy PV.pw
  cases hl : x.live <;> by_cases ha : x.at_ = .no <;> simp [ha]
theorem sbusy (h : SAt w T p x) : Calls Try.prog 23 #[.pointer (some ⟨p, 0, none⟩)] w fun e w' => e = .returned (.bool x.busy) ∧ w = w' := by
  obtain ⟨lg, v, h1, h2, S, h3⟩ := h.open
  exact busy_any h1 h2
theorem slive (h : SAt w T p x) : Calls Try.prog 24 #[.pointer (some ⟨p, 0, none⟩)] w fun e w' => e = .returned (.bool x.live) ∧ w = w' := by
  obtain ⟨lg, v, h1, h2, S, h3⟩ := h.open
  exact plive_any h1
theorem swriting (h : SAt w T p x) : Calls Try.prog 27 #[.pointer (some ⟨p, 0, none⟩)] w fun e w' => e = .returned (.bool x.writing) ∧ w = w' := by
  obtain ⟨lg, v, h1, h2, S, h3⟩ := h.open
  exact pwriting_any h1
theorem svalue (h : SAt w T p x) : Calls Try.prog 25 #[.pointer (some ⟨p, 0, none⟩)] w fun e w' => e = .returned (.int .u64 x.val) ∧ w = w' := by
  obtain ⟨lg, v, h1, h2, S, h3⟩ := h.open
  exact pvalue_any h1
theorem sended (h : SAt w T p x) : Calls Try.prog 20 #[.pointer (some ⟨p, 0, none⟩)] w fun e w' => e = .returned (.int .i64 x.ended) ∧ w = w' := by
  obtain ⟨lg, v, h1, h2, S, h3⟩ := h.open
  exact pended_any h1
theorem spoints (h : SAt w T p x) : Calls Try.prog 26 #[.pointer (some ⟨p, 0, none⟩)] w fun e w' => e = .returned (.int .i64 x.pts) ∧ w = w' := by
  obtain ⟨lg, v, h1, h2, S, h3⟩ := h.open
  exact ppoints_any h1
theorem sreads (h : SAt w T p x) : Calls Try.prog 28 #[.pointer (some ⟨p, 0, none⟩)] w fun e w' => ∃ v, e = .returned v ∧ RowL w' w.heap.size v x.log.r ∧ Below w.heap.size w w' := by
  obtain ⟨lg, v, h1, h2, S, h3⟩ := h.open
  exact preads_any h1 h3
theorem swrites (h : SAt w T p x) : Calls Try.prog 29 #[.pointer (some ⟨p, 0, none⟩)] w fun e w' => ∃ v, e = .returned v ∧ RowL w' w.heap.size v x.log.w ∧ Below w.heap.size w w' := by
  obtain ⟨lg, v, h1, h2, S, h3⟩ := h.open
  exact pwrites_any h1 h3
theorem sopen (h : SAt w T p x) : Calls Try.prog 52 #[.pointer (some ⟨p, 0, none⟩)] w fun e w' => e = .returned (.int .i64 x.shut) ∧ w = w' := by
  obtain ⟨lg, v, h1, h2, S, h3⟩ := h.open
  rw [← sshut]
  exact open_any h1 h2
theorem stakes (h : SAt w T p x) (a : Int) : Calls Try.prog 44 #[.pointer (some ⟨p, 0, none⟩), .int .i64 a] w fun e w' => e = .returned (.int .i64 (x.errA a)) ∧ w = w' := ptakes_any (sopen h) a

theorem oneReq (r : Rq) : (r.cells.toArray).all (·.oneCell') = true := by simp [Rq.cells, Value.oneCell']
theorem Try.loadReq {w : World} {b o : Nat} (r : Rq) (h : w.rangeAt b o r.cells) : (loadVar 48 ⟨b, o, none⟩).run Try.prog w = .ok (.agg r.cells.toArray) w := run_loadVar_mid _ _ o 48 r.cells _ h Try.underlying48 rfl Try.sizeReq

set_option maxRecDepth 100000 in
set_option maxHeartbeats 1000000 in
theorem swant (h : SAt w T p x) : Calls Try.prog 18 #[.pointer (some ⟨p, 0, none⟩)] w fun e w' => e = .returned (.tuple #[.agg x.req.cells.toArray, .bool x.busy]) ∧ Below w.heap.size w w' := by
  have hb0 : Below w.heap.size w (w.alloc (.cells (Rq.cells ⟨0, 0, 0, 0⟩).toArray 48)) := (Below.refl _ w).alloc (Nat.le_refl _) _
  obtain ⟨lg, v, h1, h2, S, h3⟩ := (h.below hb0).open
  have hlt := h.lt
  have HN := Lib.hid (pnone_any h1)
  have HB := Lib.hid (busy_any (Holds.drew h1) h2)
  have c8 := Holds.cell h1 (i := 8) rfl
  have c9 := Holds.cell h1 (i := 9) rfl
  have c10 := Holds.cell h1 (i := 10) rfl
  have c11 := Holds.cell h1 (i := 11) rfl
  clear h h1 h2 h3
  simp only [PV.pw] at c8 c9 c10 c11
  generalize x.busy = bz at *
  generalize x.req = r at *
  obtain ⟨ro, ra, rv, rd⟩ := r
  simp only [Rq.cells] at *
  go_enter Try.func18, Try.ntmps18
  go_wp2_with (go_at_call 47; refine HN.out.mono ?_; rintro e w' ⟨rfl, rfl⟩)
  have hne : w.heap.size ≠ p := by omega
  have HL := Lib.hid (Try.loadReq (w := (w.alloc (.cells (Rq.cells ⟨ro, ra, rv, rd⟩).toArray 48)).drew) (b := w.heap.size) (o := 0) ⟨ro, ra, rv, rd⟩
    (fun i v hi => by rw [Nat.zero_add]; exact (Holds.new w 48 (Rq.cells ⟨ro, ra, rv, rd⟩)).drew.cell hi))
  go_region_with (go_at_call 23; refine HB.out.mono ?_; rintro e w' ⟨rfl, rfl⟩)
  all_goals
    go_wp2
    exact bodyPost_ret (results_ct rfl rfl HL.out rfl) rfl ⟨rfl, by repeat (first | exact Below.refl _ _ | refine below_drew1 ?_ | refine Below.setCell ?_ (by simp) _ | refine Below.alloc ?_ (by simp) _)⟩
end

end Go.Proofs.Ytgdfiggloifncaa
