/- SoftNames: calls on none, the chapter's examples. Conditions: those stated in each theorem. -/
import Derived.Test.YtjdmbiljaoiphaaSoftN
namespace Go.Proofs.Ytjdmbiljaoiphaa
open Go.RowKit Go.BigFrame Go.Maps Go.ChangeMaps

section
variable {w w' : World} {u : Value}
/-- There is no path that New made. -/
def Bare (w : World) (u : Value) : Prop := Calls Try.prog 47 #[u] w fun e w' => e = .returned (.bool true) ∧ w = w'
set_option maxHeartbeats 400000 in
theorem busy_n (h : Bare w u) : Calls Try.prog 23 #[u] w fun e w' => e = .returned (.bool false) ∧ w = w' := by
  have HN := Lib.hid h
  clear h
  go_enter Try.func23, Try.ntmps23
  go_wp2_with (go_at_call 47; refine HN.out.mono ?_; rintro e w' ⟨rfl, rfl⟩)
  go_ret
  exact ⟨rfl, rfl⟩
set_option maxHeartbeats 400000 in
theorem live_n (h : Bare w u) : Calls Try.prog 24 #[u] w fun e w' => e = .returned (.bool false) ∧ w = w' := by
  have HN := Lib.hid h
  clear h
  go_enter Try.func24, Try.ntmps24
  go_wp2_with (go_at_call 47; refine HN.out.mono ?_; rintro e w' ⟨rfl, rfl⟩)
  go_ret
  exact ⟨rfl, rfl⟩
set_option maxHeartbeats 400000 in
theorem writing_n (h : Bare w u) : Calls Try.prog 27 #[u] w fun e w' => e = .returned (.bool false) ∧ w = w' := by
  have HN := Lib.hid h
  clear h
  go_enter Try.func27, Try.ntmps27
  go_wp2_with (go_at_call 47; refine HN.out.mono ?_; rintro e w' ⟨rfl, rfl⟩)
  go_ret
  exact ⟨rfl, rfl⟩
set_option maxHeartbeats 400000 in
theorem value_n (h : Bare w u) : Calls Try.prog 25 #[u] w fun e w' => e = .returned (.int .u64 0) ∧ w = w' := by
  have HN := Lib.hid h
  clear h
  go_enter Try.func25, Try.ntmps25
  go_wp2_with (go_at_call 47; refine HN.out.mono ?_; rintro e w' ⟨rfl, rfl⟩)
  go_ret
  exact ⟨rfl, rfl⟩
set_option maxHeartbeats 400000 in
theorem ended_n (h : Bare w u) : Calls Try.prog 20 #[u] w fun e w' => e = .returned (.int .i64 0) ∧ w = w' := by
  have HN := Lib.hid h
  clear h
  go_enter Try.func20, Try.ntmps20
  go_wp2_with (go_at_call 47; refine HN.out.mono ?_; rintro e w' ⟨rfl, rfl⟩)
  go_ret
  exact ⟨rfl, rfl⟩
set_option maxHeartbeats 400000 in
theorem points_n (h : Bare w u) : Calls Try.prog 26 #[u] w fun e w' => e = .returned (.int .i64 0) ∧ w = w' := by
  have HN := Lib.hid h
  clear h
  go_enter Try.func26, Try.ntmps26
  go_wp2_with (go_at_call 47; refine HN.out.mono ?_; rintro e w' ⟨rfl, rfl⟩)
  go_ret
  exact ⟨rfl, rfl⟩
set_option maxHeartbeats 400000 in
theorem reads_n (h : Bare w u) : Calls Try.prog 28 #[u] w fun e w' => e = .returned (.slice none 0 0) ∧ w = w' := by
  have HN := Lib.hid h
  clear h
  go_enter Try.func28, Try.ntmps28
  go_wp2_with (go_at_call 47; refine HN.out.mono ?_; rintro e w' ⟨rfl, rfl⟩)
  go_ret
  exact ⟨rfl, rfl⟩
set_option maxHeartbeats 400000 in
theorem writes_n (h : Bare w u) : Calls Try.prog 29 #[u] w fun e w' => e = .returned (.slice none 0 0) ∧ w = w' := by
  have HN := Lib.hid h
  clear h
  go_enter Try.func29, Try.ntmps29
  go_wp2_with (go_at_call 47; refine HN.out.mono ?_; rintro e w' ⟨rfl, rfl⟩)
  go_ret
  exact ⟨rfl, rfl⟩
set_option maxHeartbeats 400000 in
theorem begin_n (h : Bare w u) : Calls Try.prog 15 #[u] w fun e w' => e = .returned (.int .i64 1) ∧ w = w' := by
  have HN := Lib.hid h
  clear h
  go_enter Try.func15, Try.ntmps15
  go_wp2_with (go_at_call 47; refine HN.out.mono ?_; rintro e w' ⟨rfl, rfl⟩)
  go_ret
  exact ⟨rfl, rfl⟩
set_option maxHeartbeats 400000 in
theorem open_n (h : Bare w u) : Calls Try.prog 52 #[u] w fun e w' => e = .returned (.int .i64 1) ∧ w = w' := by
  have HN := Lib.hid h
  clear h
  go_enter Try.func52, Try.ntmps52
  go_wp2_with (go_at_call 47; refine HN.out.mono ?_; rintro e w' ⟨rfl, rfl⟩)
  go_ret
  exact ⟨rfl, rfl⟩
set_option maxHeartbeats 400000 in
theorem give_n (h : Bare w u) (v : Int) (ok : Bool) : Calls Try.prog 14 #[u, .int .u64 v, .bool ok] w fun e w' => e = .returned (.int .i64 1) ∧ w = w' := by
  have HN := Lib.hid h
  clear h
  go_enter Try.func14, Try.ntmps14
  go_wp2_with (go_at_call 47; refine HN.out.mono ?_; rintro e w' ⟨rfl, rfl⟩)
  go_ret
  exact ⟨rfl, rfl⟩
set_option maxHeartbeats 400000 in
theorem commit_n (h : Bare w u) : Calls Try.prog 21 #[u] w fun e w' => e = .returned (.int .i64 1) ∧ w = w' := by
  have HN := Lib.hid (open_n h)
  clear h
  go_enter Try.func21, Try.ntmps21
  go_wp2_with (go_at_call 52; refine HN.out.mono ?_; rintro e w' ⟨rfl, rfl⟩)
  go_ret
  exact ⟨rfl, rfl⟩
set_option maxHeartbeats 400000 in
theorem quit_n (h : Bare w u) : Calls Try.prog 22 #[u] w fun e w' => e = .returned (.int .i64 1) ∧ w = w' := by
  have HN := Lib.hid (open_n h)
  clear h
  go_enter Try.func22, Try.ntmps22
  go_wp2_with (go_at_call 52; refine HN.out.mono ?_; rintro e w' ⟨rfl, rfl⟩)
  go_ret
  exact ⟨rfl, rfl⟩
set_option maxHeartbeats 400000 in
theorem takes_n (h : Bare w u) (a : Int) : Calls Try.prog 44 #[u, .int .i64 a] w fun e w' => e = .returned (.int .i64 1) ∧ w = w' := by
  have HN := Lib.hid (open_n h)
  clear h
  go_enter Try.func44, Try.ntmps44
  go_wp2_with (go_at_call 52; refine HN.out.mono ?_; rintro e w' ⟨rfl, rfl⟩)
  go_ret
  exact ⟨rfl, rfl⟩
set_option maxHeartbeats 400000 in
theorem load_n (h : Bare w u) (a : Int) : Calls Try.prog 13 #[u, .int .i64 a] w fun e w' => e = .returned (.int .i64 1) ∧ w = w' := by
  have HN := Lib.hid (takes_n h a)
  clear h
  go_enter Try.func13, Try.ntmps13
  go_wp2_with (go_at_call 44; refine HN.out.mono ?_; rintro e w' ⟨rfl, rfl⟩)
  go_ret
  exact ⟨rfl, rfl⟩
set_option maxHeartbeats 400000 in
theorem store_n (h : Bare w u) (a v : Int) : Calls Try.prog 17 #[u, .int .i64 a, .int .u64 v] w fun e w' => e = .returned (.int .i64 1) ∧ w = w' := by
  have HN := Lib.hid (takes_n h a)
  clear h
  go_enter Try.func17, Try.ntmps17
  go_wp2_with (go_at_call 44; refine HN.out.mono ?_; rintro e w' ⟨rfl, rfl⟩)
  go_ret
  exact ⟨rfl, rfl⟩

set_option maxRecDepth 100000 in
set_option maxHeartbeats 1000000 in
theorem want_n (h : ∀ V, Below w.heap.size w V → Bare V u) : Calls Try.prog 18 #[u] w fun e w' => e = .returned (.tuple #[.agg #[.int .i64 0, .int .i64 0, .int .u64 0, .int .u64 0], .bool false]) ∧ Below w.heap.size w w' := by
  have hb0 : Below w.heap.size w (w.alloc (.cells (Rq.cells ⟨0, 0, 0, 0⟩).toArray 48)) := (Below.refl _ w).alloc (Nat.le_refl _) _
  have HN := Lib.hid (h _ hb0)
  have HB := Lib.hid hb0
  have HL := Lib.hid (Try.loadReq (w := (w.alloc (.cells (Rq.cells ⟨0, 0, 0, 0⟩).toArray 48))) (b := w.heap.size) (o := 0) ⟨0, 0, 0, 0⟩
    (fun i v hi => by rw [Nat.zero_add]; exact (Holds.new w 48 (Rq.cells ⟨0, 0, 0, 0⟩)).cell hi))
  clear h hb0
  simp only [Rq.cells] at HN HB HL
  go_enter Try.func18, Try.ntmps18
  go_wp2_with (go_at_call 47; refine HN.out.mono ?_; rintro e w' ⟨rfl, rfl⟩)
  exact bodyPost_ret (results_ct rfl rfl HL.out rfl) rfl ⟨rfl, HB.out⟩
end
def zeroCells : List Value := [.pointer none, .pointer none, .int .u64 0, .int .u64 0, .int .i64 0, .bool false, .bool false, .int .i64 0, .int .i64 0, .int .i64 0, .int .u64 0, .int .u64 0, .nilFunc]
theorem bare_zero {w : World} {z : Nat} (h : Holds w z 57 zeroCells) : Bare w (.pointer (some ⟨z, 0, none⟩)) := pnone_bare (h.cell (i := 0) rfl)

/-! ### The states -/
def e1 : PV × (Int → Int) := finF 3000 (PV.zero.begin, m0)
def e2 : PV × (Int → Int) := finF 3000 (e1.1.load 9, e1.2)
def mE : Int → Int := upd (upd e2.2 0 6) 9 8
def rr : Nat → PV × (Int → Int)
  | 0 => (e2.1.load 10, mE)
  | n + 1 => stepV (rr n)
def AL : List Int := [10, 0, 0, 9, 1, 1]
theorem rr_addr : ∀ k, k < 6 → (rr k).1.req.addr = AL.getD k 0
  | 0, _ => by kernel_rfl | 1, _ => by kernel_rfl | 2, _ => by kernel_rfl | 3, _ => by kernel_rfl | 4, _ => by kernel_rfl | 5, _ => by kernel_rfl
  | n + 6, h => by omega
theorem rr_end : (rr 6).1 = ⟨.no, 4, 5, 2, false, false, 2, ⟨[⟨9, 5⟩], []⟩⟩ := by kernel_rfl
theorem rr_1 : (rr 6).2 1 = 0 := by kernel_rfl
theorem e1_x : e1.1 = ⟨.no, 4, 0, 1, true, false, 0, Lg.zero⟩ := by kernel_rfl
theorem e2_x : e2.1 = ⟨.no, 4, 5, 2, true, false, 0, ⟨[⟨9, 5⟩], []⟩⟩ := by kernel_rfl
theorem e1_ok : OkS e1 := finF_ok (s := (PV.zero.begin, m0)) ⟨PV.begin_ok PV.ok_zero, m0_ok⟩ 3000
theorem e2_ok : OkS e2 := finF_ok (s := (e1.1.load 9, e1.2)) ⟨PV.load_ok e1_ok.1 (i64_lit (n := 9) (by omega)), e1_ok.2⟩ 3000
theorem rr_ok : ∀ k, OkS (rr k)
  | 0 => ⟨PV.load_ok e2_ok.1 (i64_lit (n := 10) (by omega)), upd_ok (upd_ok e2_ok.2 (w64_lit (n := 6) (by omega))) (w64_lit (n := 8) (by omega))⟩
  | n + 1 => stepV_ok (rr_ok n)
theorem rr_pts : ∀ k : Nat, 0 ≤ (rr k).1.pts ∧ (rr k).1.pts ≤ 2 + k
  | 0 => by
    have : (rr 0).1.pts = 2 := by kernel_rfl
    omega
  | n + 1 => by
    have h := rr_pts n
    have h2 := PV.give_pts (rr n).1 ((rr n).2 (rr n).1.req.addr) (okV (rr n).2 (rr n).1.req)
    show 0 ≤ (stepV (rr n)).1.pts ∧ (stepV (rr n)).1.pts ≤ _
    simp only [stepV]
    omega
/-- A row of numbers. -/
def rowP (v : Value) (xs : List Int) : Part := ⟨fun w T => w.ownsRow 0 3 1 v xs.length (xs.map (Value.int .i64)) ∧ ∀ g, v.ownBlock = some g → T g,
  fun h ht hC => ⟨owns_same h.1 (fun g e => ht.block g (owns_lt h.1 e).2 (hC g (h.2 g e))), h.2⟩, fun h hT => ⟨h.1, fun g e => hT g (owns_lt h.1 e).2 (h.2 g e)⟩⟩
theorem Try.infoInt : (Try.prog.info? 3).map (fun i => (i.zero, i.size, i.bytes)) = some (some (.int .i64 0), 1, 8) := by kernel_rfl

end Go.Proofs.Ytjdmbiljaoiphaa
