/- A log: empty, none, takes, find, value. Conditions: those stated in each theorem. -/
import Derived.Test.YtgdfiggloifncaaLogA
import Derived.Lib.Builder
namespace Go.Proofs.Ytgdfiggloifncaa
open Go.RowKit Go.BigFrame Go.Maps

theorem Try.sizeList : (Try.prog.info? 86).map (·.size) = some 2 := by kernel_rfl
theorem Try.ptr_same (w : World) (x : Addr) : (binOp .neq 54 (.pointer (some x)) (.pointer (some x))).run Try.prog w = .ok (.bool false) w := by
  have h : (Try.prog.info? 89).isSome = true := by kernel_rfl
  obtain ⟨j, hj⟩ := Option.isSome_iff_exists.1 h
  exact Lib.run_neq_ptr_same w x Try.underlying54 hj
theorem Try.ptr_none (w : World) (x : Addr) : (binOp .neq 54 (.pointer none) (.pointer (some x))).run Try.prog w = .ok (.bool true) w := by
  have h : ∀ d : Nat, (Op.equalIn (d + 1) 54 (.pointer none) (.pointer (some x))).run Try.prog w = .ok false w := fun d => by
    simp [Op.equalIn, run_underlying Try.underlying54]
  simp only [binOp]
  simp [Op.equal, Op.maxDepth, h 9999]

section
variable {w w' : World} {a : Nat} {f : Lg} {S : Nat → Prop}

set_option maxHeartbeats 400000 in
theorem empty_any (w : World) : Calls Try.prog 56 #[] w fun e w' => ∃ b, e = .returned (.agg #[.slice none 0 0, .map (some b)]) ∧ MapAt w' b [] ∧ w.heap.size ≤ b ∧ Below w.heap.size w w' := by
  have hmm := @run_makeMap Try.prog
  go_enter Try.func56, Try.ntmps56
  go_wp2
  refine bodyPost_ret (results_c rfl rfl (v := .agg #[.slice none 0 0, .map (some (w.heap.size + 1))]) ?_) rfl ?_
  · exact run_loadVar_mid _ _ 0 86 [.slice none 0 0, .map (some (w.heap.size + 1))] _ (((Holds.new w 86 [.slice none 0 0, .map (some (w.heap.size + 1))]).alloc _).range (o := 0) (fun i v hi => by rw [Nat.zero_add]; exact hi)) Try.underlying86 rfl Try.sizeList
  · refine ⟨_, rfl, ?_, Nat.le_succ _, ((Below.refl _ w).alloc (Nat.le_refl _) _).alloc (by simp) _⟩
    have := MapAt.made (w.alloc (.cells #[.slice none 0 0, .map (some (w.heap.size + 1))] 86))
    rwa [World.size_alloc] at this

set_option maxHeartbeats 400000 in
theorem none_any (h : LgAt w S a f) : Calls Try.prog 65 #[.pointer (some ⟨a, 0, none⟩)] w fun e w' => e = .returned (.bool false) ∧ w = w' := by
  obtain ⟨pr, br, pw, bw, h, _⟩ := h
  have c0 := h.head.cell (i := 0) rfl
  clear h
  have hq := Try.ptr_same
  go_enter Try.func65, Try.ntmps65
  go_wp2
  go_ret
  exact ⟨rfl, rfl⟩
set_option maxHeartbeats 400000 in
theorem none_nil : Calls Try.prog 65 #[.pointer none] w fun e w' => e = .returned (.bool true) ∧ w = w' := by
  go_enter Try.func65, Try.ntmps65
  go_wp2
  go_ret
  exact ⟨rfl, rfl⟩
set_option maxHeartbeats 400000 in
theorem none_bare (h : w.cell? ⟨a, 0, none⟩ = some (.pointer none)) : Calls Try.prog 65 #[.pointer (some ⟨a, 0, none⟩)] w fun e w' => e = .returned (.bool true) ∧ w = w' := by
  have hq := Try.ptr_none
  go_enter Try.func65, Try.ntmps65
  go_wp2
  go_ret
  exact ⟨rfl, rfl⟩

def errT (i : Int) : Int := if i < 0 then 2 else 0
set_option maxHeartbeats 400000 in
theorem takes_any (h : LgAt w S a f) (i : Int) : Calls Try.prog 77 #[.pointer (some ⟨a, 0, none⟩), .int .i64 i] w fun e w' => e = .returned (.int .i64 (errT i)) ∧ w = w' := by
  have HN := Lib.hid (none_any h); clear h
  unfold errT
  by_cases hi : i < 0
  · rw [if_pos hi]
    go_enter Try.func77, Try.ntmps77
    go_wp2_with (go_at_call 65; refine HN.out.mono ?_; rintro e w' ⟨rfl, rfl⟩)
    go_ret
    exact ⟨rfl, rfl⟩
  · rw [if_neg hi]
    have d1 : decide (i < 0) = false := by simpa using hi
    go_enter Try.func77, Try.ntmps77
    go_wp2_with (go_at_call 65; refine HN.out.mono ?_; rintro e w' ⟨rfl, rfl⟩)
    go_ret
    exact ⟨rfl, rfl⟩
theorem takes_none {p : Value} (hn : Calls Try.prog 65 #[p] w fun e w' => e = .returned (.bool true) ∧ w = w') (i : Int) : Calls Try.prog 77 #[p, .int .i64 i] w fun e w' => e = .returned (.int .i64 1) ∧ w = w' := by
  have HN := Lib.hid hn; clear hn
  go_enter Try.func77, Try.ntmps77
  go_wp2_with (go_at_call 65; refine HN.out.mono ?_; rintro e w' ⟨rfl, rfl⟩)
  go_ret
  exact ⟨rfl, rfl⟩

set_option maxHeartbeats 400000 in
theorem find_yes {L off b : Nat} {pv : Value} {l : List Pr} (h1 : w.cell? ⟨L, off + 1, none⟩ = some (.map (some b))) (h0 : w.cell? ⟨L, off, none⟩ = some pv) (h : LsAt w pv b l) (ad : Int) (hw : (Lit.int .i64 ad).wf = true) {i : Nat} (hp : posL l ad = some i) :
    Calls Try.prog 78 #[.pointer (some ⟨L, off, none⟩), .int .i64 ad] w fun e w' => (∃ g, pv.ownBlock = some g ∧ e = .returned (.tuple #[.pointer (some ⟨g, i * 2, none⟩), .bool true])) ∧ w = w' := by
  have hlt := posL_lt hp
  obtain ⟨g, cap, rfl, -, -⟩ := h.row.form (by omega)
  have hm := Lib.hid h.map
  have hln := h.len
  clear h
  have HP := Lib.hid hp; clear hp
  have HW := Lib.hid hw; clear hw
  go_enter Try.func78, Try.ntmps78
  go_wp2_with (at_lookup; refine wpList_look_yes rfl _ _ rfl b l ad i rfl rfl hm.out HW.out HP.out ?_)
  go_ret2
  exact ⟨⟨g, rfl, rfl⟩, rfl⟩
set_option maxHeartbeats 400000 in
theorem find_no {L off b : Nat} {pv : Value} {l : List Pr} (h1 : w.cell? ⟨L, off + 1, none⟩ = some (.map (some b))) (h : LsAt w pv b l) (ad : Int) (hw : (Lit.int .i64 ad).wf = true) (hp : posL l ad = none) :
    Calls Try.prog 78 #[.pointer (some ⟨L, off, none⟩), .int .i64 ad] w fun e w' => e = .returned (.tuple #[.pointer none, .bool false]) ∧ w = w' := by
  have hm := Lib.hid h.map
  clear h
  have HP := Lib.hid hp; clear hp
  have HW := Lib.hid hw; clear hw
  go_enter Try.func78, Try.ntmps78
  go_wp2_with (at_lookup; refine wpList_look_no rfl _ _ rfl b l ad rfl rfl hm.out HW.out HP.out ?_)
  go_ret2
  exact ⟨rfl, rfl⟩

theorem valL_at {l : List Pr} {ad : Int} {i : Nat} (h : posL l ad = some i) {x : Pr} (hx : l[i]? = some x) : valL l ad = x.v := by
  unfold valL; rw [h]; simp [List.getD, hx]

set_option maxHeartbeats 400000 in
theorem value_any {L off b : Nat} {pv : Value} {l : List Pr} (h1 : w.cell? ⟨L, off + 1, none⟩ = some (.map (some b))) (h0 : w.cell? ⟨L, off, none⟩ = some pv) (h : LsAt w pv b l) (ad : Int) (hw : (Lit.int .i64 ad).wf = true) :
    Calls Try.prog 66 #[.pointer (some ⟨L, off, none⟩), .int .i64 ad] w fun e w' => e = .returned (.tuple #[.int .u64 (valL l ad), .bool (hasL l ad)]) ∧ w = w' := by
  cases hp : posL l ad with
  | none =>
    rw [show valL l ad = 0 from by simp [valL, hp], show hasL l ad = false from by simp [hasL, hp]]
    have HR := Lib.hid (find_no h1 h ad hw hp)
    clear h h0 h1 hw hp
    go_enter Try.func66, Try.ntmps66
    go_wp2_with (go_at_call 78; refine HR.out.mono ?_; rintro e w' ⟨rfl, rfl⟩)
    go_ret2
    exact ⟨rfl, rfl⟩
  | some i =>
    obtain ⟨x, hx, -⟩ := posL_at hp
    rw [valL_at hp hx, show hasL l ad = true from by simp [hasL, hp]]
    have HR := Lib.hid (find_yes h1 h0 h ad hw hp)
    have HC : Hid (∀ g, pv.ownBlock = some g → w.cell? ⟨g, i * 2 + 1, none⟩ = some (.int .u64 x.v)) := Lib.hid (fun g hg => (owns_cell h.row hg (by rw [Nat.mul_comm]; exact flatP_v hx)).1)
    clear h h0 h1 hw hp hx
    go_enter Try.func66, Try.ntmps66
    go_wp2_with (go_at_call 78; refine HR.out.mono ?_; rintro e w' ⟨⟨g, hg, rfl⟩, rfl⟩; have cg := HC.out g hg)
    go_ret2
    exact ⟨rfl, rfl⟩
theorem LgPt.c {pr pw : Value} {br bw : Nat} (h : LgPt w a pr br pw bw f) (j : Nat) {v : Value} (hv : (lcells a pr br pw bw)[j]? = some v) : w.cell? ⟨a, j, none⟩ = some v := h.head.cell hv

set_option maxHeartbeats 400000 in
theorem was_any (h : LgAt w S a f) (ad : Int) (hw : (Lit.int .i64 ad).wf = true) : Calls Try.prog 92 #[.pointer (some ⟨a, 0, none⟩), .int .i64 ad] w fun e w' => e = .returned (.tuple #[.int .u64 (valL f.r ad), .bool (hasL f.r ad)]) ∧ w = w' := by
  have HN := Lib.hid (none_any h)
  obtain ⟨pr, br, pw, bw, h, -⟩ := h
  have HV := Lib.hid (value_any (off := 1) (h.c 2 rfl) (h.c 1 rfl) h.rl ad hw)
  clear h hw
  go_enter Try.func92, Try.ntmps92
  go_wp2_with (first | (go_at_call 65; refine HN.out.mono ?_; rintro e w' ⟨rfl, rfl⟩) | (go_at_call 66; refine HV.out.mono ?_; rintro e w' ⟨rfl, rfl⟩))
  go_ret2
  exact ⟨rfl, rfl⟩
set_option maxHeartbeats 400000 in
theorem look_any (h : LgAt w S a f) (ad : Int) (hw : (Lit.int .i64 ad).wf = true) : Calls Try.prog 45 #[.pointer (some ⟨a, 0, none⟩), .int .i64 ad] w fun e w' => e = .returned (.tuple #[.int .u64 (valL f.w ad), .bool (hasL f.w ad)]) ∧ w = w' := by
  have HN := Lib.hid (none_any h)
  obtain ⟨pr, br, pw, bw, h, -⟩ := h
  have HV := Lib.hid (value_any (off := 3) (h.c 4 rfl) (h.c 3 rfl) h.wl ad hw)
  clear h hw
  go_enter Try.func45, Try.ntmps45
  go_wp2_with (first | (go_at_call 65; refine HN.out.mono ?_; rintro e w' ⟨rfl, rfl⟩) | (go_at_call 66; refine HV.out.mono ?_; rintro e w' ⟨rfl, rfl⟩))
  go_ret2
  exact ⟨rfl, rfl⟩
theorem was_none {p : Value} (hn : Calls Try.prog 65 #[p] w fun e w' => e = .returned (.bool true) ∧ w = w') (i : Int) : Calls Try.prog 92 #[p, .int .i64 i] w fun e w' => e = .returned (.tuple #[.int .u64 0, .bool false]) ∧ w = w' := by
  have HN := Lib.hid hn; clear hn
  go_enter Try.func92, Try.ntmps92
  go_wp2_with (go_at_call 65; refine HN.out.mono ?_; rintro e w' ⟨rfl, rfl⟩)
  go_ret2
  exact ⟨rfl, rfl⟩
theorem look_none {p : Value} (hn : Calls Try.prog 65 #[p] w fun e w' => e = .returned (.bool true) ∧ w = w') (i : Int) : Calls Try.prog 45 #[p, .int .i64 i] w fun e w' => e = .returned (.tuple #[.int .u64 0, .bool false]) ∧ w = w' := by
  have HN := Lib.hid hn; clear hn
  go_enter Try.func45, Try.ntmps45
  go_wp2_with (go_at_call 65; refine HN.out.mono ?_; rintro e w' ⟨rfl, rfl⟩)
  go_ret2
  exact ⟨rfl, rfl⟩
end

end Go.Proofs.Ytgdfiggloifncaa
