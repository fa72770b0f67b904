/- A writer: where a key's root is; take, want, block. Conditions: those stated in each theorem. -/
import Derived.Test.YthjbcpgncnchoaaLbG
import Derived.Laws.Bits64b
namespace Go.Proofs.Ythjbcpgncnchoaa
open Go.RowKit Go.BigFrame

theorem and32 (n : Int) (h0 : 0 ≤ n) (h1 : n < 18446744073709551616) : Go.bits .and .u64 n 4294967295 = n % 4294967296 := by
  obtain ⟨m, rfl⟩ : ∃ m : Nat, n = m := ⟨n.toNat, by omega⟩
  rw [show (4294967295 : Int) = ((4294967295 : Nat) : Int) from rfl, bits_and_u64_nat m 4294967295 (by omega) (by omega)]
  rw [show (4294967295 : Nat) = 2 ^ 32 - 1 from by decide, Nat.and_two_pow_sub_one_eq_mod]
  omega
/-- The upper half of a product by a small number. -/
def hiP (x y : Int) : Int := (x / 4294967296 * y + (x % 4294967296 * y) / 4294967296) / 4294967296
theorem hiP_lt {x y : Int} (h0 : 0 ≤ x) (h1 : x < 18446744073709551616) (hy : 0 ≤ y) (hy2 : y ≤ 64) : 0 ≤ hiP x y ∧ (1 ≤ y → hiP x y < y) ∧ hiP x y ≤ 64 := by
  obtain ⟨m, rfl⟩ : ∃ m : Nat, y = m := ⟨y.toNat, by omega⟩
  have hm : m ≤ 64 := by omega
  unfold hiP
  have e1 : 0 ≤ x / 4294967296 := by omega
  have e2 : x / 4294967296 ≤ 4294967295 := by omega
  have e3 : 0 ≤ x % 4294967296 := by omega
  have e4 : x % 4294967296 ≤ 4294967295 := by omega
  generalize x / 4294967296 = a at *
  generalize x % 4294967296 = c at *
  have f1 : 0 ≤ a * m := Int.mul_nonneg e1 (by omega)
  have f2 : a * m ≤ 4294967295 * m := Int.mul_le_mul_of_nonneg_right e2 (by omega)
  have f3 : 0 ≤ c * m := Int.mul_nonneg e3 (by omega)
  have f4 : c * m ≤ 4294967295 * m := Int.mul_le_mul_of_nonneg_right e4 (by omega)
  generalize a * (m : Int) = p at *
  generalize c * (m : Int) = q at *
  refine ⟨by omega, fun h => by omega, by omega⟩
theorem hi_eq {x y : Int} (h0 : 0 ≤ x) (h1 : x < 18446744073709551616) (hy : 0 ≤ y) (hy2 : y ≤ 64) :
    IntKind.u64.wrap (IntKind.u64.wrap (IntKind.u64.wrap (x / 4294967296 * (y / 4294967296)) + IntKind.u64.wrap (IntKind.u64.wrap (x / 4294967296 * y) + IntKind.u64.wrap (x % 4294967296 * y) / 4294967296) / 4294967296) + IntKind.u64.wrap (Go.bits .and .u64 (IntKind.u64.wrap (IntKind.u64.wrap (x / 4294967296 * y) + IntKind.u64.wrap (x % 4294967296 * y) / 4294967296)) 4294967295 + IntKind.u64.wrap (x % 4294967296 * (y / 4294967296))) / 4294967296) = hiP x y := by
  unfold hiP
  rw [show y / 4294967296 = 0 by omega]
  simp only [Int.mul_zero]
  have e1 : 0 ≤ x / 4294967296 := by omega
  have e2 : x / 4294967296 ≤ 4294967295 := by omega
  have e3 : 0 ≤ x % 4294967296 := by omega
  have e4 : x % 4294967296 ≤ 4294967295 := by omega
  generalize x / 4294967296 = a at *
  generalize x % 4294967296 = c at *
  have f1 : 0 ≤ a * y := Int.mul_nonneg e1 (by omega)
  have f2 : a * y ≤ 4294967295 * y := Int.mul_le_mul_of_nonneg_right e2 (by omega)
  have f3 : 0 ≤ c * y := Int.mul_nonneg e3 (by omega)
  have f4 : c * y ≤ 4294967295 * y := Int.mul_le_mul_of_nonneg_right e4 (by omega)
  generalize a * y = p at *
  generalize c * y = q at *
  have w1 : IntKind.u64.wrap q = q := by rw [IntKind.wrap_u64]; omega
  have w2 : IntKind.u64.wrap p = p := by rw [IntKind.wrap_u64]; omega
  have w3 : IntKind.u64.wrap (p + q / 4294967296) = p + q / 4294967296 := by rw [IntKind.wrap_u64]; omega
  rw [w1, w2, w3, and32 _ (by omega) (by omega)]
  simp only [IntKind.wrap_u64]
  omega
set_option maxRecDepth 100000 in
set_option maxHeartbeats 2000000 in
theorem mul64_any (x y : Int) (hx : 0 ≤ x ∧ x < 18446744073709551616) (hy : 0 ≤ y ∧ y ≤ 64) (w : World) : Calls Try.prog 107 #[.int .u64 x, .int .u64 y] w fun e w' => e = .returned (.tuple #[.int .u64 (hiP x y), .int .u64 (IntKind.u64.wrap (x * y))]) ∧ w' = w := by
  have m1 := and32 x hx.1 hx.2
  have m2 : Go.bits .and .u64 y 4294967295 = y := by rw [and32 y hy.1 (by omega)]; omega
  go_enter Try.func107, Try.ntmps107
  go_wp2
  refine bodyPost_ret (results_tmp2 rfl _ _ _) rfl ⟨?_, rfl⟩
  have he := hi_eq hx.1 hx.2 hy.1 hy.2
  rw [← he]
  rfl

theorem root_wrap (k : Int) : 0 ≤ IntKind.u64.wrap (k * 11400714819323198485) ∧ IntKind.u64.wrap (k * 11400714819323198485) < 18446744073709551616 := by rw [IntKind.wrap_u64]; omega
/-- From which word a key's node hangs. -/
def Pl.root (p : Pl) (k : Int) : Int := p.base + 2 + hiP (IntKind.u64.wrap (k * 11400714819323198485)) p.roots
set_option maxRecDepth 100000 in
set_option maxHeartbeats 2000000 in
theorem root_any (P : Pl) (hP : P.Ok) (k : Int) (w : World) : Calls Try.prog 96 #[P.val, .int .u64 k] w fun e w' => e = .returned (.int .i64 (P.root k)) ∧ Below w.heap.size w w' := by
  have hb := (box4 w P).cell (i := 0) rfl
  have hr := (box4 w P).cell (i := 1) rfl
  have hM := fun W => mul64_any (IntKind.u64.wrap (k * 11400714819323198485)) P.roots (root_wrap k) ⟨hP.r0, hP.r1⟩ W
  have hi := hiP_lt (root_wrap k).1 (root_wrap k).2 hP.r0 hP.r1
  have hu : IntKind.u64.wrap P.roots = P.roots := by have := hP.r0; have := hP.r1; rw [IntKind.wrap_u64]; omega
  unfold Pl.root
  obtain ⟨pb, pr, pw, pm⟩ := P
  obtain ⟨h1, h2, h3, h4, h5, h6, h7, h8⟩ := hP
  simp only at *
  have hh0 := hi.1
  have hh1 := hi.2.2
  clear hi
  have HM := Lib.hid hM; clear hM
  generalize hiP (IntKind.u64.wrap (k * 11400714819323198485)) pr = z at *
  go_enter Try.func96, Try.ntmps96
  unfold Pl.val
  go_wp2_with (go_at_call 107; (with_reducible refine (HM.out _).mono ?_); rintro e w2 ⟨rfl, rfl⟩)
  refine bodyPost_ret (results_tmp rfl _ _ _) rfl ⟨rfl, (Below.refl _ w).alloc (Nat.le_refl _) _⟩

section
variable {w w0 : World} {B N b : Nat} {P : Pl} {x : WV}
def WV.want (x : WV) (P : Pl) (k : Int) : WV := (x.wide 3 k).set 4 (P.root k)
set_option maxRecDepth 100000 in
set_option maxHeartbeats 2000000 in
theorem want_any (h : WO B P N w0 w b x) (hP : P.Ok) (k : Int) (hk : 0 ≤ k ∧ k < 18446744073709551616) (hN : N ≤ 70000) : Calls Try.prog 81 #[.pointer (some ⟨b, 0, none⟩), .int .u64 k] w fun e w' => e = .returned (.tuple #[]) ∧ WO B P (N + 6) w0 w' b (x.want P k) := by
  obtain ⟨q0, q1, q2, q3⟩ := h.pool
  have H := Lib.hid h; clear h
  have HN := Lib.hid hN; clear hN
  go_enter Try.func81, Try.ntmps81
  go_wp2_with (first | (go_at_call 67; (with_reducible refine (wide_any H.out 3 k hk (by have := HN.out; omega)).mono ?_); rintro e w1 ⟨rfl, h⟩; (try clear q0 q1 q2 q3); obtain ⟨q0, q1, q2, q3⟩ := h.pool; have H := Lib.hid h; clear h) | (go_at_call 96; (with_reducible refine (root_any P hP k _).mono ?_); rintro e w1 ⟨rfl, hb⟩; have h := H.out.idle (below_box hb); (try clear q0 q1 q2 q3); obtain ⟨q0, q1, q2, q3⟩ := h.pool; have H := Lib.hid h; clear h hb) | (go_at_call 72; (with_reducible refine (set_any H.out 4 (P.root k) (by have := HN.out; omega)).mono ?_); rintro e w1 ⟨rfl, h⟩; have H := Lib.hid h; clear h))
  exact ⟨rfl, .tuple #[], (by simp [results, Try.results81, go_sem]), rfl, H.out.more (by omega)⟩

def WV.take (x : WV) (P : Pl) : WV := (((((((((((((((x).load 5 0 P.base).ne 5 0 nFree).load 6 0 (P.base + 1)).set 5 (P.width * P.many)).eq 6 5 nEnd).set 5 P.width).sum 5 5 6).store 5 0 (P.base + 1)).set 5 P.nodes).sum 5 5 6).jump nTaken).name nFree).load 6 5 0).store 6 0 P.base).name nTaken
set_option maxRecDepth 100000 in
set_option maxHeartbeats 2000000 in
theorem take_any (h : WO B P N w0 w b x) (hP : P.Ok) (hN : N ≤ 60000) : Calls Try.prog 87 #[.pointer (some ⟨b, 0, none⟩)] w fun e w' => e = .returned (.tuple #[]) ∧ WO B P (N + 18) w0 w' b (x.take P) := by
  obtain ⟨q0, q1, q2, q3⟩ := h.pool
  have H := Lib.hid h; clear h
  have HN := Lib.hid hN; clear hN
  have hmul : 0 ≤ P.width * P.many ∧ P.width * P.many ≤ 2016 := by
    have h1 := hP.w0; have h2 := hP.w1; have h3 := hP.m0; have h4 := hP.m1
    have g1 : 0 ≤ P.width * P.many := Int.mul_nonneg (by omega) (by omega)
    have g2 : P.width * P.many ≤ 4 * P.many := Int.mul_le_mul_of_nonneg_right h2 (by omega)
    omega
  obtain ⟨hmul0, hmul1⟩ := hmul
  have hwr : IntKind.i64.wrap (P.width * P.many) = P.width * P.many := IntWalk.i64_in _ (by omega)
  have HK : Hid (∀ V M y, WO B P M w0 V b y → V.cell? ⟨b, 2, none⟩ = some (.int .i64 P.width) ∧ V.cell? ⟨b, 3, none⟩ = some (.int .i64 P.many)) := Lib.hid (fun V M y h => h.pool.2.2)
  go_enter Try.func87, Try.ntmps87
  go_wp2_with (first | (go_at_call 104; (with_reducible refine (freeAt_any P hP _).mono ?_); rintro e w1 ⟨rfl, hb⟩; have h := H.out.idle (below_box hb); (try clear q0 q1 q2 q3); obtain ⟨q0, q1, q2, q3⟩ := h.pool; have H := Lib.hid h; clear h hb) | (go_at_call 106; (with_reducible refine (usedAt_any P hP _).mono ?_); rintro e w1 ⟨rfl, hb⟩; have h := H.out.idle (below_box hb); (try clear q0 q1 q2 q3); obtain ⟨q0, q1, q2, q3⟩ := h.pool; have H := Lib.hid h; clear h hb) | (go_at_call 70; (with_reducible refine (load_any H.out 5 0 P.base (by have := HN.out; omega)).mono ?_); rintro e w1 ⟨rfl, h⟩; (try clear q0 q1 q2 q3); obtain ⟨q0, q1, q2, q3⟩ := h.pool; have H := Lib.hid h; clear h) | (go_at_call 105; (with_reducible refine (ne_any H.out 5 0 nFree (by have := HN.out; omega)).mono ?_); rintro e w1 ⟨rfl, h⟩; (try clear q0 q1 q2 q3); obtain ⟨q0, q1, q2, q3⟩ := h.pool; have H := Lib.hid h; clear h) | (go_at_call 70; (with_reducible refine (load_any H.out 6 0 (P.base + 1) (by have := HN.out; omega)).mono ?_); rintro e w1 ⟨rfl, h⟩; (try clear q0 q1 q2 q3); obtain ⟨q0, q1, q2, q3⟩ := h.pool; have H := Lib.hid h; clear h))
  have hD := H.out.drew
  go_region_held3 (fun V => V.cell? ⟨b, 2, none⟩ = some (.int .i64 P.width) ∧ V.cell? ⟨b, 3, none⟩ = some (.int .i64 P.many)) (first | with_reducible exact HK.out _ _ _ hD) (first | (go_at_call 72; (with_reducible refine (set_any hD 5 (P.width * P.many) (by have := HN.out; omega)).mono ?_); rintro e V ⟨rfl, hD⟩))
  (try clear q0 q1 q2 q3); obtain ⟨q0, q1, q2, q3⟩ := hD.pool; have H := Lib.hid hD; clear hD
  go_wp2_with (first | (go_at_call 104; (with_reducible refine (freeAt_any P hP _).mono ?_); rintro e w1 ⟨rfl, hb⟩; have h := H.out.idle (below_box hb); (try clear q0 q1 q2 q3); obtain ⟨q0, q1, q2, q3⟩ := h.pool; have H := Lib.hid h; clear h hb) | (go_at_call 106; (with_reducible refine (usedAt_any P hP _).mono ?_); rintro e w1 ⟨rfl, hb⟩; have h := H.out.idle (below_box hb); (try clear q0 q1 q2 q3); obtain ⟨q0, q1, q2, q3⟩ := h.pool; have H := Lib.hid h; clear h hb) | (go_at_call 78; (with_reducible refine (nodes_any P hP _).mono ?_); rintro e w1 ⟨rfl, hb⟩; have h := H.out.idle (below_box hb); (try clear q0 q1 q2 q3); obtain ⟨q0, q1, q2, q3⟩ := h.pool; have H := Lib.hid h; clear h hb) | (go_at_call 73; (with_reducible refine (eq_any H.out 6 5 nEnd (by have := HN.out; omega)).mono ?_); rintro e w1 ⟨rfl, h⟩; (try clear q0 q1 q2 q3); obtain ⟨q0, q1, q2, q3⟩ := h.pool; have H := Lib.hid h; clear h) | (go_at_call 72; (with_reducible refine (set_any H.out 5 P.width (by have := HN.out; omega)).mono ?_); rintro e w1 ⟨rfl, h⟩; (try clear q0 q1 q2 q3); obtain ⟨q0, q1, q2, q3⟩ := h.pool; have H := Lib.hid h; clear h) | (go_at_call 75; (with_reducible refine (sum_any H.out 5 5 6 (by have := HN.out; omega)).mono ?_); rintro e w1 ⟨rfl, h⟩; (try clear q0 q1 q2 q3); obtain ⟨q0, q1, q2, q3⟩ := h.pool; have H := Lib.hid h; clear h) | (go_at_call 77; (with_reducible refine (store_any H.out 5 0 (P.base + 1) (by have := HN.out; omega)).mono ?_); rintro e w1 ⟨rfl, h⟩; (try clear q0 q1 q2 q3); obtain ⟨q0, q1, q2, q3⟩ := h.pool; have H := Lib.hid h; clear h) | (go_at_call 72; (with_reducible refine (set_any H.out 5 P.nodes (by have := HN.out; omega)).mono ?_); rintro e w1 ⟨rfl, h⟩; (try clear q0 q1 q2 q3); obtain ⟨q0, q1, q2, q3⟩ := h.pool; have H := Lib.hid h; clear h) | (go_at_call 85; (with_reducible refine (jump_any H.out nTaken (by have := HN.out; omega)).mono ?_); rintro e w1 ⟨rfl, h⟩; (try clear q0 q1 q2 q3); obtain ⟨q0, q1, q2, q3⟩ := h.pool; have H := Lib.hid h; clear h) | (go_at_call 86; (with_reducible refine (name_any H.out nFree (by decide) (by have := HN.out; omega)).mono ?_); rintro e w1 ⟨rfl, h⟩; (try clear q0 q1 q2 q3); obtain ⟨q0, q1, q2, q3⟩ := h.pool; have H := Lib.hid h; clear h) | (go_at_call 70; (with_reducible refine (load_any H.out 6 5 0 (by have := HN.out; omega)).mono ?_); rintro e w1 ⟨rfl, h⟩; (try clear q0 q1 q2 q3); obtain ⟨q0, q1, q2, q3⟩ := h.pool; have H := Lib.hid h; clear h) | (go_at_call 77; (with_reducible refine (store_any H.out 6 0 P.base (by have := HN.out; omega)).mono ?_); rintro e w1 ⟨rfl, h⟩; (try clear q0 q1 q2 q3); obtain ⟨q0, q1, q2, q3⟩ := h.pool; have H := Lib.hid h; clear h) | (go_at_call 86; (with_reducible refine (name_any H.out nTaken (by decide) (by have := HN.out; omega)).mono ?_); rintro e w1 ⟨rfl, h⟩; (try clear q0 q1 q2 q3); obtain ⟨q0, q1, q2, q3⟩ := h.pool; have H := Lib.hid h; clear h))
  exact ⟨rfl, .tuple #[], (by simp [results, Try.results87, go_sem]), rfl, H.out.more (by omega)⟩

def WV.block (x : WV) (F : WV → WV) : WV := ((((F ((((x.set 0 0).set 1 0).set 2 0).add ⟨17, 0, 0, 0, 0⟩)).name nEnd)).add ⟨18, 0, 0, 0, 0⟩)
set_option maxRecDepth 100000 in
set_option maxHeartbeats 2000000 in
theorem block_any (h : WO B P N w0 w b x) {F : WV → WV} {k : Nat} {g : FuncId} {fs cs A : Array Value} (hA : fs ++ #[] ++ cs = A) (hF : Cl B P w0 b 50000 k F g A) (hk : k ≤ 1000) (hN : N ≤ 40000) : Calls Try.prog 68 #[.pointer (some ⟨b, 0, none⟩), .func (.func g) fs cs] w fun e w' => e = .returned (.tuple #[]) ∧ WO B P (N + (k + 6)) w0 w' b (x.block F) := by
  obtain ⟨q0, q1, q2, q3⟩ := h.pool
  have H := Lib.hid h; clear h
  have HN := Lib.hid hN; clear hN
  have HF := Lib.hid hF; clear hF
  have HA := Lib.hid hA; clear hA
  have Hk := Lib.hid hk; clear hk
  go_enter Try.func68, Try.ntmps68
  go_wp2_with (first | (go_at_call 72; (with_reducible refine (set_any H.out 0 0 (by have := HN.out; omega)).mono ?_); rintro e w1 ⟨rfl, h⟩; have H := Lib.hid h; clear h) | (go_at_call 72; (with_reducible refine (set_any H.out 1 0 (by have := HN.out; omega)).mono ?_); rintro e w1 ⟨rfl, h⟩; have H := Lib.hid h; clear h) | (go_at_call 72; (with_reducible refine (set_any H.out 2 0 (by have := HN.out; omega)).mono ?_); rintro e w1 ⟨rfl, h⟩; have H := Lib.hid h; clear h) | (go_at_call 102; (with_reducible refine (add_lit H.out 17 0 0 0 0 (by have := HN.out; omega)).mono ?_); rintro e w1 ⟨rfl, h⟩; have H := Lib.hid h; clear h) | (go_at_call 102; (with_reducible refine (add_lit H.out 18 0 0 0 0 (by have := HN.out; have := Hk.out; omega)).mono ?_); rintro e w1 ⟨rfl, h⟩; have H := Lib.hid h; clear h) | (go_at_call 86; (with_reducible refine (name_any H.out nEnd (by decide) (by have := HN.out; have := Hk.out; omega)).mono ?_); rintro e w1 ⟨rfl, h⟩; have H := Lib.hid h; clear h) | (refine wpList_callV rfl (by rfl) (by rfl) HF.out.en _ (by simpa using HA.out) (HF.out.does _ _ _ H.out (by have := HN.out; omega)) ?_; intro w' hR; have H := Lib.hid hR; clear hR))
  exact ⟨rfl, .tuple #[], (by simp [results, Try.results68, go_sem]), rfl, H.out.more (by omega)⟩

end

end Go.Proofs.Ythjbcpgncnchoaa
