/- A file of registers: Get, Set, Jump, PC, Drop, New. Conditions: those stated in each theorem. -/
import Derived.Test.YtcammonbhehakaaRegA
namespace Go.Proofs.Ytcammonbhehakaa
open Go.RowKit Go.BigFrame

section
variable {w w' : World} {a : Nat} {f : Fl}

theorem cellR (m : Mo) (pv : Value) (b : Bool) {k : Nat} (hk : k < 8) : (m.fcells pv b)[k]? = some (.int .u64 (m.r.get k)) := by
  match k, hk with
  | 0, _ => rfl | 1, _ => rfl | 2, _ => rfl | 3, _ => rfl | 4, _ => rfl | 5, _ => rfl | 6, _ => rfl | 7, _ => rfl
theorem cellR_set (m : Mo) (pv : Value) (b : Bool) {k : Nat} (hk : k < 8) (v : Int) : (m.fcells pv b).set k (.int .u64 v) = Mo.fcells { m with r := m.r.set k v } pv b := by
  match k, hk with
  | 0, _ => rfl | 1, _ => rfl | 2, _ => rfl | 3, _ => rfl | 4, _ => rfl | 5, _ => rfl | 6, _ => rfl | 7, _ => rfl

/-- A store into a file. -/
theorem FlPt.put {pv : Value} (h : FlPt w a pv f) (j : Nat) (v : Value) (pv' : Value) (f' : Fl) (hc : (f.m.fcells pv true).set j v = f'.m.fcells pv' true) (hp : PtAt w pv' f'.pt) :
    FlAt (w.setCell ⟨a, j, none⟩ v) a f' ∧ Tch (· = a) w (w.setCell ⟨a, j, none⟩ v) := by
  have hT : Tch (· = a) w (w.setCell ⟨a, j, none⟩ v) := Tch.setCell (C := (· = a)) (Tch.refl _ w) (p := ⟨a, j, none⟩) (.inl rfl) v
  exact ⟨⟨pv', hc ▸ h.head.set j v, hp.frame hT (fun k L hL e => (hL.ne h.head (by decide)) e)⟩, hT⟩

set_option maxHeartbeats 400000 in
theorem get_any (h : FlAt w a f) (i : Int) : Calls Try.prog 16 #[.pointer (some ⟨a, 0, none⟩), .int .i64 i] w fun e w' => e = .returned (.tuple #[.int .u64 (f.get i), .int .i64 (errR i)]) ∧ w = w' := by
  unfold Fl.get errR
  by_cases hi : 0 ≤ i ∧ i < 8
  · obtain ⟨k, rfl⟩ := Int.eq_ofNat_of_zero_le hi.1
    have hk : k < 8 := by omega
    rw [if_pos hi, if_pos hi, Int.toNat_natCast]
    have HR := Lib.hid (register_ok h k hk)
    obtain ⟨pv, h⟩ := h
    have c := h.c k (cellR _ _ _ hk)
    clear h
    generalize f.m.r.get k = x at *
    go_enter Try.func16, Try.ntmps16
    go_wp2_with (go_at_call 30; refine HR.out.mono ?_; rintro e w' ⟨rfl, rfl⟩)
    go_ret2
    exact ⟨rfl, rfl⟩
  · rw [if_neg hi, if_neg hi]
    have HR := Lib.hid (register_no h i hi)
    clear h
    go_enter Try.func16, Try.ntmps16
    go_wp2_with (go_at_call 30; refine HR.out.mono ?_; rintro e w' ⟨rfl, rfl⟩)
    go_ret2
    exact ⟨rfl, rfl⟩
theorem get_none {p : Value} (hn : Calls Try.prog 31 #[p] w fun e w' => e = .returned (.bool true) ∧ w = w') (i : Int) : Calls Try.prog 16 #[p, .int .i64 i] w fun e w' => e = .returned (.tuple #[.int .u64 0, .int .i64 1]) ∧ w = w' := by
  have HR := Lib.hid (register_none hn i); clear hn
  go_enter Try.func16, Try.ntmps16
  go_wp2_with (go_at_call 30; refine HR.out.mono ?_; rintro e w' ⟨rfl, rfl⟩)
  go_ret2
  exact ⟨rfl, rfl⟩

set_option maxHeartbeats 400000 in
theorem set_any (h : FlAt w a f) (i v : Int) : Calls Try.prog 15 #[.pointer (some ⟨a, 0, none⟩), .int .i64 i, .int .u64 v] w fun e w' => e = .returned (.int .i64 (errR i)) ∧ FlAt w' a (f.set i v) ∧ Tch (· = a) w w' := by
  unfold Fl.set errR
  by_cases hi : 0 ≤ i ∧ i < 8
  · obtain ⟨k, rfl⟩ := Int.eq_ofNat_of_zero_le hi.1
    have hk : k < 8 := by omega
    rw [if_pos hi, if_pos hi, Int.toNat_natCast]
    have HR := Lib.hid (register_ok h k hk)
    obtain ⟨pv, h⟩ := h
    have c := h.c k (cellR _ _ _ hk)
    have fr := h.head.free k
    have HE := Lib.hid (h.put k (.int .u64 v) pv { f with m := { f.m with r := f.m.r.set k v } } (cellR_set _ _ _ hk v) h.point)
    clear h
    generalize f.m.r.get k = x at *
    go_enter Try.func15, Try.ntmps15
    go_wp2_with (go_at_call 30; refine HR.out.mono ?_; rintro e w' ⟨rfl, rfl⟩)
    go_ret
    exact ⟨rfl, HE.out⟩
  · rw [if_neg hi, if_neg hi]
    have HR := Lib.hid (register_no h i hi)
    have HE := Lib.hid (And.intro h (Tch.refl (· = a) w))
    clear h
    go_enter Try.func15, Try.ntmps15
    go_wp2_with (go_at_call 30; refine HR.out.mono ?_; rintro e w' ⟨rfl, rfl⟩)
    go_ret
    exact ⟨rfl, HE.out⟩
theorem set_none {p : Value} (hn : Calls Try.prog 31 #[p] w fun e w' => e = .returned (.bool true) ∧ w = w') (i v : Int) : Calls Try.prog 15 #[p, .int .i64 i, .int .u64 v] w fun e w' => e = .returned (.int .i64 1) ∧ w = w' := by
  have HR := Lib.hid (register_none hn i); clear hn
  go_enter Try.func15, Try.ntmps15
  go_wp2_with (go_at_call 30; refine HR.out.mono ?_; rintro e w' ⟨rfl, rfl⟩)
  go_ret
  exact ⟨rfl, rfl⟩

set_option maxHeartbeats 400000 in
theorem jump_any (h : FlAt w a f) (k : Int) : Calls Try.prog 17 #[.pointer (some ⟨a, 0, none⟩), .int .i64 k] w fun e w' => e = .returned (.int .i64 (errJ k)) ∧ FlAt w' a (f.jump k) ∧ Tch (· = a) w w' := by
  unfold Fl.jump errJ
  have HR := Lib.hid (none_any h)
  by_cases hk : k < 0
  · rw [if_pos hk, if_pos hk]
    have HE := Lib.hid (And.intro h (Tch.refl (· = a) w))
    clear h
    go_enter Try.func17, Try.ntmps17
    go_wp2_with (go_at_call 31; refine HR.out.mono ?_; rintro e w' ⟨rfl, rfl⟩)
    go_ret
    exact ⟨rfl, HE.out⟩
  · rw [if_neg hk, if_neg hk]
    have d1 : decide (k < 0) = false := by simpa using hk
    obtain ⟨pv, h⟩ := h
    have c := h.c 8 rfl
    have fr := h.head.free 8
    have HE := Lib.hid (h.put 8 (.int .i64 k) pv { f with m := { f.m with pc := k } } rfl h.point)
    clear h
    go_enter Try.func17, Try.ntmps17
    go_wp2_with (go_at_call 31; refine HR.out.mono ?_; rintro e w' ⟨rfl, rfl⟩)
    go_ret
    exact ⟨rfl, HE.out⟩
theorem jump_none {p : Value} (hn : Calls Try.prog 31 #[p] w fun e w' => e = .returned (.bool true) ∧ w = w') (k : Int) : Calls Try.prog 17 #[p, .int .i64 k] w fun e w' => e = .returned (.int .i64 1) ∧ w = w' := by
  have HR := Lib.hid hn; clear hn
  go_enter Try.func17, Try.ntmps17
  go_wp2_with (go_at_call 31; refine HR.out.mono ?_; rintro e w' ⟨rfl, rfl⟩)
  go_ret
  exact ⟨rfl, rfl⟩

set_option maxHeartbeats 400000 in
theorem pc_any (h : FlAt w a f) : Calls Try.prog 20 #[.pointer (some ⟨a, 0, none⟩)] w fun e w' => e = .returned (.int .i64 f.m.pc) ∧ w = w' := by
  obtain ⟨pv, h⟩ := h
  have c := h.c 8 rfl
  clear h
  go_enter Try.func20, Try.ntmps20
  go_wp2
  go_ret
  exact ⟨rfl, rfl⟩

set_option maxHeartbeats 400000 in
theorem drop_any (h : FlAt w a f) : Calls Try.prog 13 #[.pointer (some ⟨a, 0, none⟩)] w fun e w' => e = .returned (.int .i64 f.errP) ∧ FlAt w' a f.drop ∧ Tch (· = a) w w' := by
  have HR := Lib.hid (pointed_any h)
  unfold Fl.drop
  cases hq : f.pt with
  | none =>
    have he : f.errP = 60 := by simp [Fl.errP, hq]
    have HE := Lib.hid (And.intro (show FlAt w a { f with pt := none } from by rw [← hq]; exact h) (Tch.refl (· = a) w))
    clear h
    rw [he] at HR ⊢
    go_enter Try.func13, Try.ntmps13
    go_wp2_with (go_at_call 29; refine HR.out.mono ?_; rintro e w' ⟨rfl, rfl⟩)
    go_ret
    exact ⟨rfl, HE.out⟩
  | some m =>
    have he : f.errP = 0 := by simp [Fl.errP, hq]
    obtain ⟨pv, h⟩ := h
    have c := h.c 9 rfl
    have fr := h.head.free 9
    have HE := Lib.hid (h.put 9 (.pointer none) (.pointer none) { f with pt := none } rfl rfl)
    clear h
    rw [he] at HR ⊢
    go_enter Try.func13, Try.ntmps13
    go_wp2_with (go_at_call 29; refine HR.out.mono ?_; rintro e w' ⟨rfl, rfl⟩)
    go_ret
    exact ⟨rfl, HE.out⟩
theorem drop_none {p : Value} (hn : Calls Try.prog 31 #[p] w fun e w' => e = .returned (.bool true) ∧ w = w') : Calls Try.prog 13 #[p] w fun e w' => e = .returned (.int .i64 1) ∧ w = w' := by
  have HR := Lib.hid (pointed_none hn); clear hn
  go_enter Try.func13, Try.ntmps13
  go_wp2_with (go_at_call 29; refine HR.out.mono ?_; rintro e w' ⟨rfl, rfl⟩)
  go_ret
  exact ⟨rfl, rfl⟩
theorem restore_none {p : Value} (hn : Calls Try.prog 31 #[p] w fun e w' => e = .returned (.bool true) ∧ w = w') : Calls Try.prog 12 #[p] w fun e w' => e = .returned (.int .i64 1) ∧ w = w' := by
  have HR := Lib.hid (pointed_none hn); clear hn
  go_enter Try.func12, Try.ntmps12
  go_wp2_with (go_at_call 29; refine HR.out.mono ?_; rintro e w' ⟨rfl, rfl⟩)
  go_ret
  exact ⟨rfl, rfl⟩
theorem save_none {p : Value} (hn : Calls Try.prog 31 #[p] w fun e w' => e = .returned (.bool true) ∧ w = w') : Calls Try.prog 18 #[p] w fun e w' => e = .returned (.int .i64 1) ∧ w = w' := by
  have HR := Lib.hid hn; clear hn
  go_enter Try.func18, Try.ntmps18
  go_wp2_with (go_at_call 31; refine HR.out.mono ?_; rintro e w' ⟨rfl, rfl⟩)
  go_ret
  exact ⟨rfl, rfl⟩

set_option maxHeartbeats 400000 in
theorem new_any (w : World) : Calls Try.prog 9 #[] w fun e w' => ∃ a, e = .returned (.pointer (some ⟨a, 0, none⟩)) ∧ w.heap.size ≤ a ∧ FlAt w' a Fl.zero ∧ Below w.heap.size w w' := by
  have h1 := Holds.new w 49 (Mo.zero.fcells (.pointer none) true)
  have HE := Lib.hid (And.intro (show FlAt (w.alloc (.cells (Mo.zero.fcells (.pointer none) true).toArray 49)) w.heap.size Fl.zero from ⟨.pointer none, h1, rfl⟩) ((Below.refl w.heap.size w).alloc (Nat.le_refl _) (.cells (Mo.zero.fcells (.pointer none) true).toArray 49)))
  clear h1
  go_enter Try.func9, Try.ntmps9
  go_wp2
  go_ret
  exact ⟨_, rfl, Nat.le_refl _, HE.out⟩
end

end Go.Proofs.Ytcammonbhehakaa
