/- A writer: the insides of blocks. Conditions: those stated in each theorem. -/
import Derived.Test.YthjbcpgncnchoaaLbH
namespace Go.Proofs.Ythjbcpgncnchoaa
open Go.RowKit Go.BigFrame

section
variable {w w0 : World} {B N b : Nat} {P : Pl} {x : WV}

def WV.push1 (P : Pl) (x : WV) : WV := (((((((((((x).load 3 0 (P.base + 1)).set 6 P.many).eq 3 6 nEnd).load 4 0 P.base).sum 4 4 3).round P ).store 7 4 P.nodes).set 6 1).sum 3 3 6).store 3 0 (P.base + 1)).set 0 1
set_option maxRecDepth 100000 in
set_option maxHeartbeats 4000000 in
theorem push1_any (h : WO B P N w0 w b x) (hP : P.Ok) (c : Nat) (hc : Holds w0 c 75 [.pointer (some ⟨b, 0, none⟩)]) (hN : N ≤ 50000) : Calls Try.prog 69 #[.pointer (some ⟨c, 0, none⟩)] w fun e w' => e = .returned (.tuple #[]) ∧ WO B P (N + 16) w0 w' b (x.push1 P) := by
  have HK : Hid (∀ V M y, WO B P M w0 V b y → V.cell? ⟨c, 0, none⟩ = some (.pointer (some ⟨b, 0, none⟩)) ∧ V.cell? ⟨b, 0, none⟩ = some (.int .i64 P.base) ∧ V.cell? ⟨b, 1, none⟩ = some (.int .i64 P.roots) ∧ V.cell? ⟨b, 2, none⟩ = some (.int .i64 P.width) ∧ V.cell? ⟨b, 3, none⟩ = some (.int .i64 P.many)) := Lib.hid (fun V M y h => ⟨(h.keep c _ _ hc (by decide) (by decide) (by decide)).cell (i := 0) rfl, h.pool⟩)
  obtain ⟨k0, q0, q1, q2, q3⟩ := HK.out _ _ _ h
  have H := Lib.hid h; clear h hc
  have HN := Lib.hid hN; clear hN
  go_enter Try.func69, Try.ntmps69
  go_wp2_with fail
  have hD := H.out.drew
  go_region_held3 (fun V => V.cell? ⟨c, 0, none⟩ = some (.pointer (some ⟨b, 0, none⟩)) ∧ V.cell? ⟨b, 0, none⟩ = some (.int .i64 P.base) ∧ V.cell? ⟨b, 1, none⟩ = some (.int .i64 P.roots) ∧ V.cell? ⟨b, 2, none⟩ = some (.int .i64 P.width) ∧ V.cell? ⟨b, 3, none⟩ = some (.int .i64 P.many)) (first | with_reducible exact HK.out _ _ _ hD) (first | (go_at_call 71; (with_reducible refine (countAt_any P hP _).mono ?_); rintro e V ⟨rfl, hb⟩; have hD := hD.idle hb) | (go_at_call 70; (with_reducible refine (load_any hD 3 0 (P.base + 1) (by have := HN.out; omega)).mono ?_); rintro e V ⟨rfl, hD⟩))
  (try clear k0 q0 q1 q2 q3); obtain ⟨k0, q0, q1, q2, q3⟩ := HK.out _ _ _ hD; have H := Lib.hid hD; clear hD
  go_wp2_with fail
  have hD := H.out.drew
  go_region_held3 (fun V => V.cell? ⟨c, 0, none⟩ = some (.pointer (some ⟨b, 0, none⟩)) ∧ V.cell? ⟨b, 0, none⟩ = some (.int .i64 P.base) ∧ V.cell? ⟨b, 1, none⟩ = some (.int .i64 P.roots) ∧ V.cell? ⟨b, 2, none⟩ = some (.int .i64 P.width) ∧ V.cell? ⟨b, 3, none⟩ = some (.int .i64 P.many)) (first | with_reducible exact HK.out _ _ _ hD) (first | (go_at_call 72; (with_reducible refine (set_any hD 6 P.many (by have := HN.out; omega)).mono ?_); rintro e V ⟨rfl, hD⟩))
  (try clear k0 q0 q1 q2 q3); obtain ⟨k0, q0, q1, q2, q3⟩ := HK.out _ _ _ hD; have H := Lib.hid hD; clear hD
  go_wp2_with (first | (go_at_call 73; (with_reducible refine (eq_any H.out 3 6 nEnd (by have := HN.out; omega)).mono ?_); rintro e w1 ⟨rfl, h⟩; (try clear k0 q0 q1 q2 q3); obtain ⟨k0, q0, q1, q2, q3⟩ := HK.out _ _ _ h; have H := Lib.hid h; clear h))
  have hD := H.out.drew
  go_region_held3 (fun V => V.cell? ⟨c, 0, none⟩ = some (.pointer (some ⟨b, 0, none⟩)) ∧ V.cell? ⟨b, 0, none⟩ = some (.int .i64 P.base) ∧ V.cell? ⟨b, 1, none⟩ = some (.int .i64 P.roots) ∧ V.cell? ⟨b, 2, none⟩ = some (.int .i64 P.width) ∧ V.cell? ⟨b, 3, none⟩ = some (.int .i64 P.many)) (first | with_reducible exact HK.out _ _ _ hD) (first | (go_at_call 74; (with_reducible refine (firstAt_any P hP _).mono ?_); rintro e V ⟨rfl, hb⟩; have hD := hD.idle hb) | (go_at_call 70; (with_reducible refine (load_any hD 4 0 P.base (by have := HN.out; omega)).mono ?_); rintro e V ⟨rfl, hD⟩))
  (try clear k0 q0 q1 q2 q3); obtain ⟨k0, q0, q1, q2, q3⟩ := HK.out _ _ _ hD; have H := Lib.hid hD; clear hD
  go_wp2_with (first | (go_at_call 75; (with_reducible refine (sum_any H.out 4 4 3 (by have := HN.out; omega)).mono ?_); rintro e w1 ⟨rfl, h⟩; (try clear k0 q0 q1 q2 q3); obtain ⟨k0, q0, q1, q2, q3⟩ := HK.out _ _ _ h; have H := Lib.hid h; clear h) | (go_at_call 76; (with_reducible refine (round_any H.out hP  (by have := HN.out; omega)).mono ?_); rintro e w1 ⟨rfl, h⟩; (try clear k0 q0 q1 q2 q3); obtain ⟨k0, q0, q1, q2, q3⟩ := HK.out _ _ _ h; have H := Lib.hid h; clear h))
  have hD := H.out.drew
  go_region_held3 (fun V => V.cell? ⟨c, 0, none⟩ = some (.pointer (some ⟨b, 0, none⟩)) ∧ V.cell? ⟨b, 0, none⟩ = some (.int .i64 P.base) ∧ V.cell? ⟨b, 1, none⟩ = some (.int .i64 P.roots) ∧ V.cell? ⟨b, 2, none⟩ = some (.int .i64 P.width) ∧ V.cell? ⟨b, 3, none⟩ = some (.int .i64 P.many)) (first | with_reducible exact HK.out _ _ _ hD) (first | (go_at_call 78; (with_reducible refine (nodes_any P hP _).mono ?_); rintro e V ⟨rfl, hb⟩; have hD := hD.idle hb) | (go_at_call 77; (with_reducible refine (store_any hD 7 4 P.nodes (by have := HN.out; omega)).mono ?_); rintro e V ⟨rfl, hD⟩))
  (try clear k0 q0 q1 q2 q3); obtain ⟨k0, q0, q1, q2, q3⟩ := HK.out _ _ _ hD; have H := Lib.hid hD; clear hD
  go_wp2_with (first | (go_at_call 72; (with_reducible refine (set_any H.out 6 1 (by have := HN.out; omega)).mono ?_); rintro e w1 ⟨rfl, h⟩; (try clear k0 q0 q1 q2 q3); obtain ⟨k0, q0, q1, q2, q3⟩ := HK.out _ _ _ h; have H := Lib.hid h; clear h) | (go_at_call 75; (with_reducible refine (sum_any H.out 3 3 6 (by have := HN.out; omega)).mono ?_); rintro e w1 ⟨rfl, h⟩; (try clear k0 q0 q1 q2 q3); obtain ⟨k0, q0, q1, q2, q3⟩ := HK.out _ _ _ h; have H := Lib.hid h; clear h))
  have hD := H.out.drew
  go_region_held3 (fun V => V.cell? ⟨c, 0, none⟩ = some (.pointer (some ⟨b, 0, none⟩)) ∧ V.cell? ⟨b, 0, none⟩ = some (.int .i64 P.base) ∧ V.cell? ⟨b, 1, none⟩ = some (.int .i64 P.roots) ∧ V.cell? ⟨b, 2, none⟩ = some (.int .i64 P.width) ∧ V.cell? ⟨b, 3, none⟩ = some (.int .i64 P.many)) (first | with_reducible exact HK.out _ _ _ hD) (first | (go_at_call 71; (with_reducible refine (countAt_any P hP _).mono ?_); rintro e V ⟨rfl, hb⟩; have hD := hD.idle hb) | (go_at_call 77; (with_reducible refine (store_any hD 3 0 (P.base + 1) (by have := HN.out; omega)).mono ?_); rintro e V ⟨rfl, hD⟩))
  (try clear k0 q0 q1 q2 q3); obtain ⟨k0, q0, q1, q2, q3⟩ := HK.out _ _ _ hD; have H := Lib.hid hD; clear hD
  go_wp2_with (first | (go_at_call 72; (with_reducible refine (set_any H.out 0 1 (by have := HN.out; omega)).mono ?_); rintro e w1 ⟨rfl, h⟩; (try clear k0 q0 q1 q2 q3); obtain ⟨k0, q0, q1, q2, q3⟩ := HK.out _ _ _ h; have H := Lib.hid h; clear h))
  exact ⟨rfl, .tuple #[], (by simp [results, Try.results69, go_sem]), rfl, H.out.more (by omega)⟩

def WV.pop1 (P : Pl) (x : WV) : WV := (((((((((((x).load 3 0 (P.base + 1)).eq 3 0 nEnd).load 4 0 P.base).load 1 4 P.nodes).set 6 1).sub 3 3 6).store 3 0 (P.base + 1)).sum 4 4 6).round P ).store 4 0 P.base).set 0 1
set_option maxRecDepth 100000 in
set_option maxHeartbeats 4000000 in
theorem pop1_any (h : WO B P N w0 w b x) (hP : P.Ok) (c : Nat) (hc : Holds w0 c 75 [.pointer (some ⟨b, 0, none⟩)]) (hN : N ≤ 50000) : Calls Try.prog 79 #[.pointer (some ⟨c, 0, none⟩)] w fun e w' => e = .returned (.tuple #[]) ∧ WO B P (N + 16) w0 w' b (x.pop1 P) := by
  have HK : Hid (∀ V M y, WO B P M w0 V b y → V.cell? ⟨c, 0, none⟩ = some (.pointer (some ⟨b, 0, none⟩)) ∧ V.cell? ⟨b, 0, none⟩ = some (.int .i64 P.base) ∧ V.cell? ⟨b, 1, none⟩ = some (.int .i64 P.roots) ∧ V.cell? ⟨b, 2, none⟩ = some (.int .i64 P.width) ∧ V.cell? ⟨b, 3, none⟩ = some (.int .i64 P.many)) := Lib.hid (fun V M y h => ⟨(h.keep c _ _ hc (by decide) (by decide) (by decide)).cell (i := 0) rfl, h.pool⟩)
  obtain ⟨k0, q0, q1, q2, q3⟩ := HK.out _ _ _ h
  have H := Lib.hid h; clear h hc
  have HN := Lib.hid hN; clear hN
  go_enter Try.func79, Try.ntmps79
  go_wp2_with fail
  have hD := H.out.drew
  go_region_held3 (fun V => V.cell? ⟨c, 0, none⟩ = some (.pointer (some ⟨b, 0, none⟩)) ∧ V.cell? ⟨b, 0, none⟩ = some (.int .i64 P.base) ∧ V.cell? ⟨b, 1, none⟩ = some (.int .i64 P.roots) ∧ V.cell? ⟨b, 2, none⟩ = some (.int .i64 P.width) ∧ V.cell? ⟨b, 3, none⟩ = some (.int .i64 P.many)) (first | with_reducible exact HK.out _ _ _ hD) (first | (go_at_call 71; (with_reducible refine (countAt_any P hP _).mono ?_); rintro e V ⟨rfl, hb⟩; have hD := hD.idle hb) | (go_at_call 70; (with_reducible refine (load_any hD 3 0 (P.base + 1) (by have := HN.out; omega)).mono ?_); rintro e V ⟨rfl, hD⟩))
  (try clear k0 q0 q1 q2 q3); obtain ⟨k0, q0, q1, q2, q3⟩ := HK.out _ _ _ hD; have H := Lib.hid hD; clear hD
  go_wp2_with (first | (go_at_call 73; (with_reducible refine (eq_any H.out 3 0 nEnd (by have := HN.out; omega)).mono ?_); rintro e w1 ⟨rfl, h⟩; (try clear k0 q0 q1 q2 q3); obtain ⟨k0, q0, q1, q2, q3⟩ := HK.out _ _ _ h; have H := Lib.hid h; clear h))
  have hD := H.out.drew
  go_region_held3 (fun V => V.cell? ⟨c, 0, none⟩ = some (.pointer (some ⟨b, 0, none⟩)) ∧ V.cell? ⟨b, 0, none⟩ = some (.int .i64 P.base) ∧ V.cell? ⟨b, 1, none⟩ = some (.int .i64 P.roots) ∧ V.cell? ⟨b, 2, none⟩ = some (.int .i64 P.width) ∧ V.cell? ⟨b, 3, none⟩ = some (.int .i64 P.many)) (first | with_reducible exact HK.out _ _ _ hD) (first | (go_at_call 74; (with_reducible refine (firstAt_any P hP _).mono ?_); rintro e V ⟨rfl, hb⟩; have hD := hD.idle hb) | (go_at_call 70; (with_reducible refine (load_any hD 4 0 P.base (by have := HN.out; omega)).mono ?_); rintro e V ⟨rfl, hD⟩))
  (try clear k0 q0 q1 q2 q3); obtain ⟨k0, q0, q1, q2, q3⟩ := HK.out _ _ _ hD; have H := Lib.hid hD; clear hD
  go_wp2_with fail
  have hD := H.out.drew
  go_region_held3 (fun V => V.cell? ⟨c, 0, none⟩ = some (.pointer (some ⟨b, 0, none⟩)) ∧ V.cell? ⟨b, 0, none⟩ = some (.int .i64 P.base) ∧ V.cell? ⟨b, 1, none⟩ = some (.int .i64 P.roots) ∧ V.cell? ⟨b, 2, none⟩ = some (.int .i64 P.width) ∧ V.cell? ⟨b, 3, none⟩ = some (.int .i64 P.many)) (first | with_reducible exact HK.out _ _ _ hD) (first | (go_at_call 78; (with_reducible refine (nodes_any P hP _).mono ?_); rintro e V ⟨rfl, hb⟩; have hD := hD.idle hb) | (go_at_call 70; (with_reducible refine (load_any hD 1 4 P.nodes (by have := HN.out; omega)).mono ?_); rintro e V ⟨rfl, hD⟩))
  (try clear k0 q0 q1 q2 q3); obtain ⟨k0, q0, q1, q2, q3⟩ := HK.out _ _ _ hD; have H := Lib.hid hD; clear hD
  go_wp2_with (first | (go_at_call 72; (with_reducible refine (set_any H.out 6 1 (by have := HN.out; omega)).mono ?_); rintro e w1 ⟨rfl, h⟩; (try clear k0 q0 q1 q2 q3); obtain ⟨k0, q0, q1, q2, q3⟩ := HK.out _ _ _ h; have H := Lib.hid h; clear h) | (go_at_call 80; (with_reducible refine (sub_any H.out 3 3 6 (by have := HN.out; omega)).mono ?_); rintro e w1 ⟨rfl, h⟩; (try clear k0 q0 q1 q2 q3); obtain ⟨k0, q0, q1, q2, q3⟩ := HK.out _ _ _ h; have H := Lib.hid h; clear h))
  have hD := H.out.drew
  go_region_held3 (fun V => V.cell? ⟨c, 0, none⟩ = some (.pointer (some ⟨b, 0, none⟩)) ∧ V.cell? ⟨b, 0, none⟩ = some (.int .i64 P.base) ∧ V.cell? ⟨b, 1, none⟩ = some (.int .i64 P.roots) ∧ V.cell? ⟨b, 2, none⟩ = some (.int .i64 P.width) ∧ V.cell? ⟨b, 3, none⟩ = some (.int .i64 P.many)) (first | with_reducible exact HK.out _ _ _ hD) (first | (go_at_call 71; (with_reducible refine (countAt_any P hP _).mono ?_); rintro e V ⟨rfl, hb⟩; have hD := hD.idle hb) | (go_at_call 77; (with_reducible refine (store_any hD 3 0 (P.base + 1) (by have := HN.out; omega)).mono ?_); rintro e V ⟨rfl, hD⟩))
  (try clear k0 q0 q1 q2 q3); obtain ⟨k0, q0, q1, q2, q3⟩ := HK.out _ _ _ hD; have H := Lib.hid hD; clear hD
  go_wp2_with (first | (go_at_call 75; (with_reducible refine (sum_any H.out 4 4 6 (by have := HN.out; omega)).mono ?_); rintro e w1 ⟨rfl, h⟩; (try clear k0 q0 q1 q2 q3); obtain ⟨k0, q0, q1, q2, q3⟩ := HK.out _ _ _ h; have H := Lib.hid h; clear h) | (go_at_call 76; (with_reducible refine (round_any H.out hP  (by have := HN.out; omega)).mono ?_); rintro e w1 ⟨rfl, h⟩; (try clear k0 q0 q1 q2 q3); obtain ⟨k0, q0, q1, q2, q3⟩ := HK.out _ _ _ h; have H := Lib.hid h; clear h))
  have hD := H.out.drew
  go_region_held3 (fun V => V.cell? ⟨c, 0, none⟩ = some (.pointer (some ⟨b, 0, none⟩)) ∧ V.cell? ⟨b, 0, none⟩ = some (.int .i64 P.base) ∧ V.cell? ⟨b, 1, none⟩ = some (.int .i64 P.roots) ∧ V.cell? ⟨b, 2, none⟩ = some (.int .i64 P.width) ∧ V.cell? ⟨b, 3, none⟩ = some (.int .i64 P.many)) (first | with_reducible exact HK.out _ _ _ hD) (first | (go_at_call 74; (with_reducible refine (firstAt_any P hP _).mono ?_); rintro e V ⟨rfl, hb⟩; have hD := hD.idle hb) | (go_at_call 77; (with_reducible refine (store_any hD 4 0 P.base (by have := HN.out; omega)).mono ?_); rintro e V ⟨rfl, hD⟩))
  (try clear k0 q0 q1 q2 q3); obtain ⟨k0, q0, q1, q2, q3⟩ := HK.out _ _ _ hD; have H := Lib.hid hD; clear hD
  go_wp2_with (first | (go_at_call 72; (with_reducible refine (set_any H.out 0 1 (by have := HN.out; omega)).mono ?_); rintro e w1 ⟨rfl, h⟩; (try clear k0 q0 q1 q2 q3); obtain ⟨k0, q0, q1, q2, q3⟩ := HK.out _ _ _ h; have H := Lib.hid h; clear h))
  exact ⟨rfl, .tuple #[], (by simp [results, Try.results79, go_sem]), rfl, H.out.more (by omega)⟩

def WV.least1 (P : Pl) (x : WV) : WV := ((((((x).load 5 4 0).eq 5 0 nEnd).down P ).load 1 5 P.keyAt).load 2 5 P.valueAt).set 0 1
set_option maxRecDepth 100000 in
set_option maxHeartbeats 4000000 in
theorem least1_any (h : WO B P N w0 w b x) (hP : P.Ok) (c : Nat) (hc : Holds w0 c 75 [.pointer (some ⟨b, 0, none⟩)]) (hN : N ≤ 50000) : Calls Try.prog 97 #[.pointer (some ⟨c, 0, none⟩)] w fun e w' => e = .returned (.tuple #[]) ∧ WO B P (N + 15) w0 w' b (x.least1 P) := by
  have HK : Hid (∀ V M y, WO B P M w0 V b y → V.cell? ⟨c, 0, none⟩ = some (.pointer (some ⟨b, 0, none⟩)) ∧ V.cell? ⟨b, 0, none⟩ = some (.int .i64 P.base) ∧ V.cell? ⟨b, 1, none⟩ = some (.int .i64 P.roots) ∧ V.cell? ⟨b, 2, none⟩ = some (.int .i64 P.width) ∧ V.cell? ⟨b, 3, none⟩ = some (.int .i64 P.many)) := Lib.hid (fun V M y h => ⟨(h.keep c _ _ hc (by decide) (by decide) (by decide)).cell (i := 0) rfl, h.pool⟩)
  obtain ⟨k0, q0, q1, q2, q3⟩ := HK.out _ _ _ h
  have H := Lib.hid h; clear h hc
  have HN := Lib.hid hN; clear hN
  go_enter Try.func97, Try.ntmps97
  go_wp2_with fail
  go_wp2_with (first | (go_at_call 70; (with_reducible refine (load_any H.out 5 4 0 (by have := HN.out; omega)).mono ?_); rintro e w1 ⟨rfl, h⟩; (try clear k0 q0 q1 q2 q3); obtain ⟨k0, q0, q1, q2, q3⟩ := HK.out _ _ _ h; have H := Lib.hid h; clear h) | (go_at_call 73; (with_reducible refine (eq_any H.out 5 0 nEnd (by have := HN.out; omega)).mono ?_); rintro e w1 ⟨rfl, h⟩; (try clear k0 q0 q1 q2 q3); obtain ⟨k0, q0, q1, q2, q3⟩ := HK.out _ _ _ h; have H := Lib.hid h; clear h) | (go_at_call 98; (with_reducible refine (down_any H.out hP  (by have := HN.out; omega)).mono ?_); rintro e w1 ⟨rfl, h⟩; (try clear k0 q0 q1 q2 q3); obtain ⟨k0, q0, q1, q2, q3⟩ := HK.out _ _ _ h; have H := Lib.hid h; clear h))
  have hD := H.out.drew
  go_region_held3 (fun V => V.cell? ⟨c, 0, none⟩ = some (.pointer (some ⟨b, 0, none⟩)) ∧ V.cell? ⟨b, 0, none⟩ = some (.int .i64 P.base) ∧ V.cell? ⟨b, 1, none⟩ = some (.int .i64 P.roots) ∧ V.cell? ⟨b, 2, none⟩ = some (.int .i64 P.width) ∧ V.cell? ⟨b, 3, none⟩ = some (.int .i64 P.many)) (first | with_reducible exact HK.out _ _ _ hD) (first | (go_at_call 89; (with_reducible refine (keyAt_any P hP _).mono ?_); rintro e V ⟨rfl, hb⟩; have hD := hD.idle hb) | (go_at_call 70; (with_reducible refine (load_any hD 1 5 P.keyAt (by have := HN.out; omega)).mono ?_); rintro e V ⟨rfl, hD⟩))
  (try clear k0 q0 q1 q2 q3); obtain ⟨k0, q0, q1, q2, q3⟩ := HK.out _ _ _ hD; have H := Lib.hid hD; clear hD
  go_wp2_with fail
  have hD := H.out.drew
  go_region_held3 (fun V => V.cell? ⟨c, 0, none⟩ = some (.pointer (some ⟨b, 0, none⟩)) ∧ V.cell? ⟨b, 0, none⟩ = some (.int .i64 P.base) ∧ V.cell? ⟨b, 1, none⟩ = some (.int .i64 P.roots) ∧ V.cell? ⟨b, 2, none⟩ = some (.int .i64 P.width) ∧ V.cell? ⟨b, 3, none⟩ = some (.int .i64 P.many)) (first | with_reducible exact HK.out _ _ _ hD) (first | (go_at_call 84; (with_reducible refine (valueAt_any P hP _).mono ?_); rintro e V ⟨rfl, hb⟩; have hD := hD.idle hb) | (go_at_call 70; (with_reducible refine (load_any hD 2 5 P.valueAt (by have := HN.out; omega)).mono ?_); rintro e V ⟨rfl, hD⟩))
  (try clear k0 q0 q1 q2 q3); obtain ⟨k0, q0, q1, q2, q3⟩ := HK.out _ _ _ hD; have H := Lib.hid hD; clear hD
  go_wp2_with (first | (go_at_call 72; (with_reducible refine (set_any H.out 0 1 (by have := HN.out; omega)).mono ?_); rintro e w1 ⟨rfl, h⟩; (try clear k0 q0 q1 q2 q3); obtain ⟨k0, q0, q1, q2, q3⟩ := HK.out _ _ _ h; have H := Lib.hid h; clear h))
  exact ⟨rfl, .tuple #[], (by simp [results, Try.results97, go_sem]), rfl, H.out.more (by omega)⟩
end

end Go.Proofs.Ythjbcpgncnchoaa
