/- do, kinds 0 to 4. Conditions: those stated in each theorem. -/
import Derived.Test.YtfngfphoefpndaaLogW
namespace Go.Proofs.Ytfngfphoefpndaa
open Go.RowKit Go.BigFrame Go.Maps

def DP (w0 : World) (a q t : Nat) (f : Lg) (n : Nat) (e : Ending) (w' : World) : Prop := e = .returned (.bool true) ∧ ∃ m, m ≤ n + 1 ∧ PSt w0 w' none [] a q t f f m
theorem PSt.post {w0 w' : World} {X : Option Nat} {L : List Value} {a q t : Nat} {f : Lg} {m n : Nat} (h : PSt w0 w' X L a q t f f m) (hm : m ≤ n + 1) {v : Value} (hv : v = .bool true) : DP w0 a q t f n (.returned v) w' := ⟨by rw [hv], m, hm, h.unbox []⟩

section
variable {w0 w : World} {L : List Value} {a q t n : Nat} {f : Lg}

set_option maxRecDepth 100000 in
set_option maxHeartbeats 2000000 in
theorem do_0 (h : PSt w0 w none L a q t f f n) (x : OpV) (hx : (Lit.int .i64 x.a).wf = true ∧ (Lit.int .u64 x.v).wf = true) (hk : x.kind = 0) :
    Calls Try.prog 11 #[.pointer (some ⟨a, 0, none⟩), .pointer (some ⟨q, 0, none⟩), .agg x.cells.toArray, .pointer (some ⟨t, 0, none⟩)] w (DP w0 a q t (stepL f x) n) := by
  rw [show stepL f x = f.read x.a x.v from by simp [stepL, hk]]
  have HL := Lib.hid h.fit.2.2.1
  have H := Lib.hid (h.box x.cells)
  have c0 := H.out.cell (i := 0) rfl
  rw [hk] at c0
  clear h
  obtain ⟨kd, i, v, nad, nlen, ncap⟩ := x
  simp only at hk hx
  subst hk
  simp only [OpV.cells] at *
  go_enter Try.func11, Try.ntmps11
  go_wp2
  generalize w.alloc (.cells #[.int .i64 0, .int .i64 i, .int .u64 v, .slice nad nlen ncap] 35) = W at *
  generalize w.heap.size = X at *
  have hD := H.out.idle (below_drew1 (Below.refl _ W))
  have HK : Hid (∀ V g1 g2, PSt w0 V (some X) [.int .i64 0, .int .i64 i, .int .u64 v, .slice nad nlen ncap] a q t g1 g2 n → V.cell? ⟨X, 1, none⟩ = some (.int .i64 i) ∧ V.cell? ⟨X, 2, none⟩ = some (.int .u64 v)) := Lib.hid (fun V g1 g2 h => ⟨h.cell (i := 1) rfl, h.cell (i := 2) rfl⟩)
  go_region_held3 (fun V => V.cell? ⟨X, 1, none⟩ = some (.int .i64 i) ∧ V.cell? ⟨X, 2, none⟩ = some (.int .u64 v)) (first | with_reducible exact HK.out _ _ _ hD) (first | (go_at_call 16; (with_reducible refine (read_p hD i v hx.1 hx.2).mono ?_); rintro e V ⟨rfl, hD⟩) | (go_at_call 17; (with_reducible refine (rread_p hD HL.out i v).mono ?_); rintro e V ⟨rfl, hD⟩))
  all_goals
    have HD := Lib.hid hD
    go_wp2
    go_ret
    exact HD.out.post (by omega) (by simp)

set_option maxRecDepth 100000 in
set_option maxHeartbeats 2000000 in
theorem do_1 (h : PSt w0 w none L a q t f f n) (x : OpV) (hx : (Lit.int .i64 x.a).wf = true ∧ (Lit.int .u64 x.v).wf = true) (hk : x.kind = 1) :
    Calls Try.prog 11 #[.pointer (some ⟨a, 0, none⟩), .pointer (some ⟨q, 0, none⟩), .agg x.cells.toArray, .pointer (some ⟨t, 0, none⟩)] w (DP w0 a q t (stepL f x) n) := by
  rw [show stepL f x = f.write x.a x.v from by simp [stepL, hk]]
  have HL := Lib.hid h.fit.2.2.2
  have H := Lib.hid (h.box x.cells)
  have c0 := H.out.cell (i := 0) rfl
  rw [hk] at c0
  clear h
  obtain ⟨kd, i, v, nad, nlen, ncap⟩ := x
  simp only at hk hx
  subst hk
  simp only [OpV.cells] at *
  go_enter Try.func11, Try.ntmps11
  go_wp2
  generalize w.alloc (.cells #[.int .i64 1, .int .i64 i, .int .u64 v, .slice nad nlen ncap] 35) = W at *
  generalize w.heap.size = X at *
  have hD := H.out.idle (below_drew1 (Below.refl _ W))
  have HK : Hid (∀ V g1 g2, PSt w0 V (some X) [.int .i64 1, .int .i64 i, .int .u64 v, .slice nad nlen ncap] a q t g1 g2 n → V.cell? ⟨X, 1, none⟩ = some (.int .i64 i) ∧ V.cell? ⟨X, 2, none⟩ = some (.int .u64 v)) := Lib.hid (fun V g1 g2 h => ⟨h.cell (i := 1) rfl, h.cell (i := 2) rfl⟩)
  go_region_held3 (fun V => V.cell? ⟨X, 1, none⟩ = some (.int .i64 i) ∧ V.cell? ⟨X, 2, none⟩ = some (.int .u64 v)) (first | with_reducible exact HK.out _ _ _ hD) (first | (go_at_call 18; (with_reducible refine (write_p hD i v hx.1 hx.2).mono ?_); rintro e V ⟨rfl, hD⟩) | (go_at_call 19; (with_reducible refine (rwrite_p hD HL.out i v).mono ?_); rintro e V ⟨rfl, hD⟩))
  all_goals
    have HD := Lib.hid hD
    go_wp2
    go_ret
    exact HD.out.post (by omega) (by simp)

set_option maxRecDepth 100000 in
set_option maxHeartbeats 2000000 in
theorem do_2 (h : PSt w0 w none L a q t f f n) (x : OpV) (hk : x.kind = 2) :
    Calls Try.prog 11 #[.pointer (some ⟨a, 0, none⟩), .pointer (some ⟨q, 0, none⟩), .agg x.cells.toArray, .pointer (some ⟨t, 0, none⟩)] w (DP w0 a q t (stepL f x) n) := by
  rw [show stepL f x = Lg.zero from by simp [stepL, hk]]
  have H := Lib.hid (h.box x.cells)
  have c0 := H.out.cell (i := 0) rfl
  rw [hk] at c0
  obtain ⟨ad, cap, ad2, cap2, hh, -, -, -⟩ := H.out.lists
  have k0 := hh.cell (i := 0) rfl
  have k1 := hh.cell (i := 1) rfl
  have f0 := hh.free 0
  have f1 := hh.free 1
  clear h hh
  obtain ⟨kd, i, v, nad, nlen, ncap⟩ := x
  simp only at hk
  subst hk
  simp only [OpV.cells] at *
  go_enter Try.func11, Try.ntmps11
  go_wp2_with fail
  refine (clear_p H.out.nil).mono ?_
  rintro e V ⟨rfl, hD⟩
  have HD := Lib.hid hD; clear hD
  go_wp2
  go_ret
  exact HD.out.post (by omega) (by simp)

set_option maxRecDepth 100000 in
set_option maxHeartbeats 2000000 in
theorem do_3 (h : PSt w0 w none L a q t f f n) (x : OpV) (hx : (Lit.int .i64 x.a).wf = true ∧ (Lit.int .u64 x.v).wf = true) (hk : x.kind = 3) :
    Calls Try.prog 11 #[.pointer (some ⟨a, 0, none⟩), .pointer (some ⟨q, 0, none⟩), .agg x.cells.toArray, .pointer (some ⟨t, 0, none⟩)] w (DP w0 a q t (stepL f x) n) := by
  rw [show stepL f x = f from by simp [stepL, hk]]
  have HL := Lib.hid h.fit.2.2.1
  have H := Lib.hid (h.box x.cells)
  have c0 := H.out.cell (i := 0) rfl
  have c1 := H.out.cell (i := 1) rfl
  rw [hk] at c0
  clear h
  obtain ⟨kd, i, v, nad, nlen, ncap⟩ := x
  simp only at hk hx
  subst hk
  simp only [OpV.cells] at *
  have HW := Lib.hid (was_p H.out i hx.1)
  go_enter Try.func11, Try.ntmps11
  go_wp2_with (go_at_call 22; refine HW.out.mono ?_; rintro e w' ⟨rfl, rfl⟩)
  generalize w.alloc (.cells #[.int .i64 3, .int .i64 i, .int .u64 v, .slice nad nlen ncap] 35) = W at *
  generalize w.heap.size = X at *
  have hD := H.out.idle (below_drew1 (Below.refl _ W))
  have k1 := hD.cell (i := 1) rfl
  obtain ⟨ad, cap, ad2, cap2, hh, hr, hr2, -⟩ := hD.lists
  have k2 := hh.cell (i := 0) rfl
  have HV := Lib.hid (rvalue_any W.drew ad cap f.r hr (by have := HL.out; omega) i)
  clear hr hr2 hh
  generalize valL f.r i = z at *
  generalize hasL f.r i = b at *
  have HD := Lib.hid hD; clear hD
  go_region_held3 (fun V => V.cell? ⟨X, 1, none⟩ = some (.int .i64 i) ∧ V.cell? ⟨q, 0, none⟩ = some (.slice ad f.r.length cap)) (first | with_reducible exact ⟨k1, k2⟩) (first | (go_at_call 27; (with_reducible refine HV.out.mono ?_); rintro e V ⟨rfl, rfl⟩))
  all_goals
    go_wp2
    go_ret
    exact HD.out.post (by omega) (by simp)

set_option maxRecDepth 100000 in
set_option maxHeartbeats 2000000 in
theorem do_4 (h : PSt w0 w none L a q t f f n) (x : OpV) (hx : (Lit.int .i64 x.a).wf = true ∧ (Lit.int .u64 x.v).wf = true) (hk : x.kind = 4) :
    Calls Try.prog 11 #[.pointer (some ⟨a, 0, none⟩), .pointer (some ⟨q, 0, none⟩), .agg x.cells.toArray, .pointer (some ⟨t, 0, none⟩)] w (DP w0 a q t (stepL f x) n) := by
  rw [show stepL f x = f from by simp [stepL, hk]]
  have HL := Lib.hid h.fit.2.2.2
  have H := Lib.hid (h.box x.cells)
  have c0 := H.out.cell (i := 0) rfl
  have c1 := H.out.cell (i := 1) rfl
  rw [hk] at c0
  clear h
  obtain ⟨kd, i, v, nad, nlen, ncap⟩ := x
  simp only at hk hx
  subst hk
  simp only [OpV.cells] at *
  have HW := Lib.hid (look_p H.out i hx.1)
  go_enter Try.func11, Try.ntmps11
  go_wp2_with (go_at_call 23; refine HW.out.mono ?_; rintro e w' ⟨rfl, rfl⟩)
  generalize w.alloc (.cells #[.int .i64 4, .int .i64 i, .int .u64 v, .slice nad nlen ncap] 35) = W at *
  generalize w.heap.size = X at *
  have hD := H.out.idle (below_drew1 (Below.refl _ W))
  have k1 := hD.cell (i := 1) rfl
  obtain ⟨ad, cap, ad2, cap2, hh, hr, hr2, -⟩ := hD.lists
  have k2 := hh.cell (i := 1) rfl
  have HV := Lib.hid (rvalue_any W.drew ad2 cap2 f.w hr2 (by have := HL.out; omega) i)
  clear hr hr2 hh
  generalize valL f.w i = z at *
  generalize hasL f.w i = b at *
  have HD := Lib.hid hD; clear hD
  go_region_held3 (fun V => V.cell? ⟨X, 1, none⟩ = some (.int .i64 i) ∧ V.cell? ⟨q, 1, none⟩ = some (.slice ad2 f.w.length cap2)) (first | with_reducible exact ⟨k1, k2⟩) (first | (go_at_call 27; (with_reducible refine HV.out.mono ?_); rintro e V ⟨rfl, rfl⟩))
  all_goals
    go_wp2
    go_ret
    exact HD.out.post (by omega) (by simp)
end

end Go.Proofs.Ytfngfphoefpndaa
