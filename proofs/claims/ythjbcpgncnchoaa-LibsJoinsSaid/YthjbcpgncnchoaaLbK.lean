/- A writer: push, pop, put, get, cut, least. Conditions: those stated in each theorem. -/
import Derived.Test.YthjbcpgncnchoaaLbJ
namespace Go.Proofs.Ythjbcpgncnchoaa
open Go.RowKit Go.BigFrame

theorem en_push1 : En 69 := fun _ _ => by kernel_rfl
theorem en_pop1 : En 79 := fun _ _ => by kernel_rfl
theorem en_put1 : En 82 := fun _ _ => by kernel_rfl
theorem en_cut1 : En 91 := fun _ _ => by kernel_rfl
theorem en_get1 : En 93 := fun _ _ => by kernel_rfl
theorem en_least1 : En 97 := fun _ _ => by kernel_rfl
theorem en_along : En 48 := fun _ _ => by kernel_rfl
theorem en_aside : En 55 := fun _ _ => by kernel_rfl
theorem en_shorten : En 51 := fun _ _ => by kernel_rfl
theorem en_unhang : En 59 := fun _ _ => by kernel_rfl
section
variable {w w0 : World} {B N b : Nat} {P : Pl} {x : WV}

def WV.push (P : Pl) (v : Int) (x : WV) : WV := ((x).wide 7 v).block (WV.push1 P)
set_option maxRecDepth 100000 in
set_option maxHeartbeats 2000000 in
theorem push_any (h : WO B P N w0 w b x) (hP : P.Ok) (v : Int) (hv : 0 ≤ v ∧ v < 18446744073709551616) (hN : N ≤ 30000) : Calls Try.prog 43 #[.pointer (some ⟨b, 0, none⟩), .int .u64 v] w fun e w' => e = .returned (.tuple #[]) ∧ WO B P (N + 27) w0 w' b (x.push P v) := by
  have h1 := h.alloc (.cells #[.pointer (some ⟨b, 0, none⟩)] 75)
  have HC := Lib.hid (Holds.new w 75 [.pointer (some ⟨b, 0, none⟩)])
  have r := WO.refl h1.at_
  obtain ⟨q0, q1, q2, q3⟩ := r.pool
  have HK : Hid (∀ V M y, WO B P M (w.alloc (.cells #[.pointer (some ⟨b, 0, none⟩)] 75)) V b y → V.cell? ⟨w.heap.size, 0, none⟩ = some (.pointer (some ⟨b, 0, none⟩))) := Lib.hid (fun V M y h => (h.keep _ _ _ HC.out (by decide) (by decide) (by decide)).cell (i := 0) rfl)
  have kb := HK.out _ _ _ r
  have H := Lib.hid r; clear r
  have H1 := Lib.hid h1; clear h1 h
  have HN := Lib.hid hN; clear hN
  have hmf := hmf_any
  go_enter Try.func43, Try.ntmps43
  go_wp2_with (first | (go_at_call 67; (with_reducible refine (wide_any H.out 7 v hv (by have := HN.out; omega)).mono ?_); rintro e w1 ⟨rfl, h⟩; (try clear q0 q1 q2 q3); obtain ⟨q0, q1, q2, q3⟩ := h.pool; have kb := (HK.out _ _ _ h); have H := Lib.hid h; clear h) | (go_at_call 68; (with_reducible refine (block_any H.out (cs := #[.pointer (some ⟨w.heap.size, 0, none⟩)]) (A := #[.pointer (some ⟨w.heap.size, 0, none⟩)]) (by simp) ⟨en_push1, fun _ _ _ h hM => push1_any h hP _ HC.out hM⟩ (by decide) (by have := HN.out; omega)).mono ?_); rintro e w1 ⟨rfl, h⟩; (try clear q0 q1 q2 q3); obtain ⟨q0, q1, q2, q3⟩ := h.pool; have kb := (HK.out _ _ _ h); have H := Lib.hid h; clear h))
  exact ⟨rfl, .tuple #[], (by simp [results, Try.results43, go_sem]), rfl, H1.out.trans (H.out.more (by omega))⟩

def WV.pop (P : Pl) (x : WV) : WV := (x).block (WV.pop1 P)
set_option maxRecDepth 100000 in
set_option maxHeartbeats 2000000 in
theorem pop_any (h : WO B P N w0 w b x) (hP : P.Ok) (hN : N ≤ 30000) : Calls Try.prog 45 #[.pointer (some ⟨b, 0, none⟩)] w fun e w' => e = .returned (.tuple #[]) ∧ WO B P (N + 22) w0 w' b (x.pop P) := by
  have h1 := h.alloc (.cells #[.pointer (some ⟨b, 0, none⟩)] 75)
  have HC := Lib.hid (Holds.new w 75 [.pointer (some ⟨b, 0, none⟩)])
  have r := WO.refl h1.at_
  obtain ⟨q0, q1, q2, q3⟩ := r.pool
  have HK : Hid (∀ V M y, WO B P M (w.alloc (.cells #[.pointer (some ⟨b, 0, none⟩)] 75)) V b y → V.cell? ⟨w.heap.size, 0, none⟩ = some (.pointer (some ⟨b, 0, none⟩))) := Lib.hid (fun V M y h => (h.keep _ _ _ HC.out (by decide) (by decide) (by decide)).cell (i := 0) rfl)
  have kb := HK.out _ _ _ r
  have H := Lib.hid r; clear r
  have H1 := Lib.hid h1; clear h1 h
  have HN := Lib.hid hN; clear hN
  have hmf := hmf_any
  go_enter Try.func45, Try.ntmps45
  go_wp2_with (first | (go_at_call 68; (with_reducible refine (block_any H.out (cs := #[.pointer (some ⟨w.heap.size, 0, none⟩)]) (A := #[.pointer (some ⟨w.heap.size, 0, none⟩)]) (by simp) ⟨en_pop1, fun _ _ _ h hM => pop1_any h hP _ HC.out hM⟩ (by decide) (by have := HN.out; omega)).mono ?_); rintro e w1 ⟨rfl, h⟩; (try clear q0 q1 q2 q3); obtain ⟨q0, q1, q2, q3⟩ := h.pool; have kb := (HK.out _ _ _ h); have H := Lib.hid h; clear h))
  exact ⟨rfl, .tuple #[], (by simp [results, Try.results45, go_sem]), rfl, H1.out.trans (H.out.more (by omega))⟩

def WV.least (P : Pl) (x : WV) : WV := ((x).set 4 (P.root 0)).block (WV.least1 P)
set_option maxRecDepth 100000 in
set_option maxHeartbeats 2000000 in
theorem least_any (h : WO B P N w0 w b x) (hP : P.Ok) (hN : N ≤ 30000) : Calls Try.prog 57 #[.pointer (some ⟨b, 0, none⟩)] w fun e w' => e = .returned (.tuple #[]) ∧ WO B P (N + 22) w0 w' b (x.least P) := by
  have h1 := h.alloc (.cells #[.pointer (some ⟨b, 0, none⟩)] 75)
  have HC := Lib.hid (Holds.new w 75 [.pointer (some ⟨b, 0, none⟩)])
  have r := WO.refl h1.at_
  obtain ⟨q0, q1, q2, q3⟩ := r.pool
  have HK : Hid (∀ V M y, WO B P M (w.alloc (.cells #[.pointer (some ⟨b, 0, none⟩)] 75)) V b y → V.cell? ⟨w.heap.size, 0, none⟩ = some (.pointer (some ⟨b, 0, none⟩))) := Lib.hid (fun V M y h => (h.keep _ _ _ HC.out (by decide) (by decide) (by decide)).cell (i := 0) rfl)
  have kb := HK.out _ _ _ r
  have H := Lib.hid r; clear r
  have H1 := Lib.hid h1; clear h1 h
  have HN := Lib.hid hN; clear hN
  have hmf := hmf_any
  go_enter Try.func57, Try.ntmps57
  go_wp2_with fail
  have hD := H.out.drew
  go_region_held3 (fun V => V.cell? ⟨w.heap.size, 0, none⟩ = some (.pointer (some ⟨b, 0, none⟩)) ∧ V.cell? ⟨b, 0, none⟩ = some (.int .i64 P.base) ∧ V.cell? ⟨b, 1, none⟩ = some (.int .i64 P.roots) ∧ V.cell? ⟨b, 2, none⟩ = some (.int .i64 P.width) ∧ V.cell? ⟨b, 3, none⟩ = some (.int .i64 P.many)) (first | with_reducible exact ⟨HK.out _ _ _ hD, hD.pool⟩) (first | (go_at_call 96; (with_reducible refine (root_any P hP 0 _).mono ?_); rintro e V ⟨rfl, hb⟩; have hD := hD.idle hb) | (go_at_call 72; (with_reducible refine (set_any hD 4 (P.root 0) (by have := HN.out; omega)).mono ?_); rintro e V ⟨rfl, hD⟩))
  clear kb; have kb := HK.out _ _ _ hD; have H := Lib.hid hD; clear hD
  go_wp2_with (first | (go_at_call 68; (with_reducible refine (block_any H.out (cs := #[.pointer (some ⟨w.heap.size, 0, none⟩)]) (A := #[.pointer (some ⟨w.heap.size, 0, none⟩)]) (by simp) ⟨en_least1, fun _ _ _ h hM => least1_any h hP _ HC.out hM⟩ (by decide) (by have := HN.out; omega)).mono ?_); rintro e w1 ⟨rfl, h⟩; (try clear q0 q1 q2 q3); obtain ⟨q0, q1, q2, q3⟩ := h.pool; have kb := (HK.out _ _ _ h); have H := Lib.hid h; clear h))
  exact ⟨rfl, .tuple #[], (by simp [results, Try.results57, go_sem]), rfl, H1.out.trans (H.out.more (by omega))⟩

def WV.put (P : Pl) (F : WV → WV) (k0 : Int) (v : Int) (x : WV) : WV := (((x).wide 7 v).want P k0).block (WV.put1 P F)
set_option maxRecDepth 100000 in
set_option maxHeartbeats 2000000 in
theorem put_any (h : WO B P N w0 w b x) (hP : P.Ok) (k0 : Int) (hk0 : 0 ≤ k0 ∧ k0 < 18446744073709551616) (v : Int) (hv : 0 ≤ v ∧ v < 18446744073709551616) {F : WV → WV} {k : Nat} {g : FuncId} {fs cs A : Array Value} (hA : fs ++ #[] ++ cs = A) (hF : ∀ W, WO B P N w0 W b x → Cl B P W b 70000 k F g A) (hk : k ≤ 100) (hN : N ≤ 30000) : Calls Try.prog 47 #[.pointer (some ⟨b, 0, none⟩), .int .u64 k0, .int .u64 v, .func (.func g) fs cs] w fun e w' => e = .returned (.tuple #[]) ∧ WO B P (N + (k + 100 + 17)) w0 w' b (x.put P F k0 v) := by
  have HB : Hid (WO B P N w0 ((w.alloc (.cells #[.pointer (some ⟨b, 0, none⟩)] 75)).alloc (.cells #[.func (.func g) fs cs] 1)) b x ∧ Holds ((w.alloc (.cells #[.pointer (some ⟨b, 0, none⟩)] 75)).alloc (.cells #[.func (.func g) fs cs] 1)) w.heap.size 75 [.pointer (some ⟨b, 0, none⟩)] ∧ Holds ((w.alloc (.cells #[.pointer (some ⟨b, 0, none⟩)] 75)).alloc (.cells #[.func (.func g) fs cs] 1)) (w.heap.size + 1) 1 [.func (.func g) fs cs] ∧ True) := Lib.hid ⟨(h.alloc _).alloc _, (Holds.new w _ [_]).alloc _, newAt (by simp) _ [_], trivial⟩
  have r := WO.refl HB.out.1.at_
  obtain ⟨q0, q1, q2, q3⟩ := r.pool
  have HK : Hid (∀ V M y, WO B P M ((w.alloc (.cells #[.pointer (some ⟨b, 0, none⟩)] 75)).alloc (.cells #[.func (.func g) fs cs] 1)) V b y → V.cell? ⟨w.heap.size, 0, none⟩ = some (.pointer (some ⟨b, 0, none⟩))) := Lib.hid (fun V M y h => (h.keep _ _ _ HB.out.2.1 (by decide) (by decide) (by decide)).cell (i := 0) rfl)
  have kb := HK.out _ _ _ r
  have H := Lib.hid r; clear r h
  have HN := Lib.hid hN; clear hN
  have HF' := Lib.hid (hF _ HB.out.1); clear hF
  have HA := Lib.hid hA; clear hA
  have Hk := Lib.hid hk; clear hk



  have hmf := hmf_any
  go_enter Try.func47, Try.ntmps47
  go_wp2_with (first | (go_at_call 67; (with_reducible refine (wide_any H.out 7 v hv (by have := HN.out; omega)).mono ?_); rintro e w1 ⟨rfl, h⟩; (try clear q0 q1 q2 q3); obtain ⟨q0, q1, q2, q3⟩ := h.pool; have kb := (HK.out _ _ _ h); have H := Lib.hid h; clear h) | (go_at_call 81; (with_reducible refine (want_any H.out hP k0 hk0 (by have := HN.out; omega)).mono ?_); rintro e w1 ⟨rfl, h⟩; (try clear q0 q1 q2 q3); obtain ⟨q0, q1, q2, q3⟩ := h.pool; have kb := (HK.out _ _ _ h); have H := Lib.hid h; clear h) | (go_at_call 68; (with_reducible refine (block_any H.out (cs := #[.pointer (some ⟨w.heap.size, 0, none⟩), .pointer (some ⟨w.heap.size + 1, 0, none⟩)]) (A := #[.pointer (some ⟨w.heap.size, 0, none⟩), .pointer (some ⟨w.heap.size + 1, 0, none⟩)]) (by simp) (k := k + 100) ⟨en_put1, fun _ _ _ h hM => put1_any h hP _ _ HB.out.2.1 HB.out.2.2.1 HA.out HF'.out Hk.out hM⟩ (by have := Hk.out; omega) (by have := HN.out; omega)).mono ?_); rintro e w1 ⟨rfl, h⟩; (try clear q0 q1 q2 q3); obtain ⟨q0, q1, q2, q3⟩ := h.pool; have kb := (HK.out _ _ _ h); have H := Lib.hid h; clear h))
  exact ⟨rfl, .tuple #[], (by simp [results, Try.results47, go_sem]), rfl, HB.out.1.trans (H.out.more (by omega))⟩

def WV.get (P : Pl) (F : WV → WV) (k0 : Int) (x : WV) : WV := ((x).want P k0).block (WV.get1 P F)
set_option maxRecDepth 100000 in
set_option maxHeartbeats 2000000 in
theorem get_any (h : WO B P N w0 w b x) (hP : P.Ok) (k0 : Int) (hk0 : 0 ≤ k0 ∧ k0 < 18446744073709551616) {F : WV → WV} {k : Nat} {g : FuncId} {fs cs A : Array Value} (hA : fs ++ #[] ++ cs = A) (hF : ∀ W, WO B P N w0 W b x → Cl B P W b 70000 k F g A) (hk : k ≤ 100) (hN : N ≤ 30000) : Calls Try.prog 53 #[.pointer (some ⟨b, 0, none⟩), .int .u64 k0, .func (.func g) fs cs] w fun e w' => e = .returned (.tuple #[]) ∧ WO B P (N + (k + 10 + 2 + 12)) w0 w' b (x.get P F k0) := by
  have HB : Hid (WO B P N w0 ((w.alloc (.cells #[.pointer (some ⟨b, 0, none⟩)] 75)).alloc (.cells #[.func (.func g) fs cs] 1)) b x ∧ Holds ((w.alloc (.cells #[.pointer (some ⟨b, 0, none⟩)] 75)).alloc (.cells #[.func (.func g) fs cs] 1)) w.heap.size 75 [.pointer (some ⟨b, 0, none⟩)] ∧ Holds ((w.alloc (.cells #[.pointer (some ⟨b, 0, none⟩)] 75)).alloc (.cells #[.func (.func g) fs cs] 1)) (w.heap.size + 1) 1 [.func (.func g) fs cs] ∧ True) := Lib.hid ⟨(h.alloc _).alloc _, (Holds.new w _ [_]).alloc _, newAt (by simp) _ [_], trivial⟩
  have r := WO.refl HB.out.1.at_
  obtain ⟨q0, q1, q2, q3⟩ := r.pool
  have HK : Hid (∀ V M y, WO B P M ((w.alloc (.cells #[.pointer (some ⟨b, 0, none⟩)] 75)).alloc (.cells #[.func (.func g) fs cs] 1)) V b y → V.cell? ⟨w.heap.size, 0, none⟩ = some (.pointer (some ⟨b, 0, none⟩))) := Lib.hid (fun V M y h => (h.keep _ _ _ HB.out.2.1 (by decide) (by decide) (by decide)).cell (i := 0) rfl)
  have kb := HK.out _ _ _ r
  have H := Lib.hid r; clear r h
  have HN := Lib.hid hN; clear hN
  have HF' := Lib.hid (hF _ HB.out.1); clear hF
  have HA := Lib.hid hA; clear hA
  have Hk := Lib.hid hk; clear hk



  have hmf := hmf_any
  go_enter Try.func53, Try.ntmps53
  go_wp2_with (first | (go_at_call 81; (with_reducible refine (want_any H.out hP k0 hk0 (by have := HN.out; omega)).mono ?_); rintro e w1 ⟨rfl, h⟩; (try clear q0 q1 q2 q3); obtain ⟨q0, q1, q2, q3⟩ := h.pool; have kb := (HK.out _ _ _ h); have H := Lib.hid h; clear h) | (go_at_call 68; (with_reducible refine (block_any H.out (cs := #[.pointer (some ⟨w.heap.size, 0, none⟩), .pointer (some ⟨w.heap.size + 1, 0, none⟩)]) (A := #[.pointer (some ⟨w.heap.size, 0, none⟩), .pointer (some ⟨w.heap.size + 1, 0, none⟩)]) (by simp) (k := k + 10 + 2) ⟨en_get1, fun _ _ _ h hM => get1_any h hP _ _ HB.out.2.1 HB.out.2.2.1 HA.out HF'.out Hk.out hM⟩ (by have := Hk.out; omega) (by have := HN.out; omega)).mono ?_); rintro e w1 ⟨rfl, h⟩; (try clear q0 q1 q2 q3); obtain ⟨q0, q1, q2, q3⟩ := h.pool; have kb := (HK.out _ _ _ h); have H := Lib.hid h; clear h))
  exact ⟨rfl, .tuple #[], (by simp [results, Try.results53, go_sem]), rfl, HB.out.1.trans (H.out.more (by omega))⟩

def WV.cut (P : Pl) (F : WV → WV) (F2 : WV → WV) (k0 : Int) (x : WV) : WV := ((x).want P k0).block (WV.cut1 P F F2)
set_option maxRecDepth 100000 in
set_option maxHeartbeats 2000000 in
theorem cut_any (h : WO B P N w0 w b x) (hP : P.Ok) (k0 : Int) (hk0 : 0 ≤ k0 ∧ k0 < 18446744073709551616) {F : WV → WV} {k : Nat} {g : FuncId} {fs cs A : Array Value} {F2 : WV → WV} {k2n : Nat} {g2 : FuncId} {fs2 cs2 A2 : Array Value} (hA : fs ++ #[] ++ cs = A) (hF : ∀ W, WO B P N w0 W b x → Cl B P W b 70000 k F g A) (hk : k ≤ 100) (hA2 : fs2 ++ #[] ++ cs2 = A2) (hF2 : ∀ W, WO B P N w0 W b x → Cl B P W b 70000 k2n F2 g2 A2) (hk2 : k2n ≤ 100) (hN : N ≤ 30000) : Calls Try.prog 50 #[.pointer (some ⟨b, 0, none⟩), .int .u64 k0, .func (.func g) fs cs, .func (.func g2) fs2 cs2] w fun e w' => e = .returned (.tuple #[]) ∧ WO B P (N + (k + 10 + k2n + 5 + 12)) w0 w' b (x.cut P F F2 k0) := by
  have HB : Hid (WO B P N w0 (((w.alloc (.cells #[.pointer (some ⟨b, 0, none⟩)] 75)).alloc (.cells #[.func (.func g) fs cs] 1)).alloc (.cells #[.func (.func g2) fs2 cs2] 1)) b x ∧ Holds (((w.alloc (.cells #[.pointer (some ⟨b, 0, none⟩)] 75)).alloc (.cells #[.func (.func g) fs cs] 1)).alloc (.cells #[.func (.func g2) fs2 cs2] 1)) w.heap.size 75 [.pointer (some ⟨b, 0, none⟩)] ∧ Holds (((w.alloc (.cells #[.pointer (some ⟨b, 0, none⟩)] 75)).alloc (.cells #[.func (.func g) fs cs] 1)).alloc (.cells #[.func (.func g2) fs2 cs2] 1)) (w.heap.size + 1) 1 [.func (.func g) fs cs] ∧ Holds (((w.alloc (.cells #[.pointer (some ⟨b, 0, none⟩)] 75)).alloc (.cells #[.func (.func g) fs cs] 1)).alloc (.cells #[.func (.func g2) fs2 cs2] 1)) (w.heap.size + 1 + 1) 1 [.func (.func g2) fs2 cs2] ∧ True) := Lib.hid ⟨((h.alloc _).alloc _).alloc _, ((Holds.new w _ [_]).alloc _).alloc _, (newAt (by simp) _ [_]).alloc _, newAt (by simp) _ [_], trivial⟩
  have r := WO.refl HB.out.1.at_
  obtain ⟨q0, q1, q2, q3⟩ := r.pool
  have HK : Hid (∀ V M y, WO B P M (((w.alloc (.cells #[.pointer (some ⟨b, 0, none⟩)] 75)).alloc (.cells #[.func (.func g) fs cs] 1)).alloc (.cells #[.func (.func g2) fs2 cs2] 1)) V b y → V.cell? ⟨w.heap.size, 0, none⟩ = some (.pointer (some ⟨b, 0, none⟩))) := Lib.hid (fun V M y h => (h.keep _ _ _ HB.out.2.1 (by decide) (by decide) (by decide)).cell (i := 0) rfl)
  have kb := HK.out _ _ _ r
  have H := Lib.hid r; clear r h
  have HN := Lib.hid hN; clear hN
  have HF' := Lib.hid (hF _ HB.out.1); clear hF
  have HA := Lib.hid hA; clear hA
  have Hk := Lib.hid hk; clear hk
  have HF2' := Lib.hid (hF2 _ HB.out.1); clear hF2
  have HA2 := Lib.hid hA2; clear hA2
  have Hk2 := Lib.hid hk2; clear hk2
  have hmf := hmf_any
  go_enter Try.func50, Try.ntmps50
  go_wp2_with (first | (go_at_call 81; (with_reducible refine (want_any H.out hP k0 hk0 (by have := HN.out; omega)).mono ?_); rintro e w1 ⟨rfl, h⟩; (try clear q0 q1 q2 q3); obtain ⟨q0, q1, q2, q3⟩ := h.pool; have kb := (HK.out _ _ _ h); have H := Lib.hid h; clear h) | (go_at_call 68; (with_reducible refine (block_any H.out (cs := #[.pointer (some ⟨w.heap.size, 0, none⟩), .pointer (some ⟨w.heap.size + 1, 0, none⟩), .pointer (some ⟨w.heap.size + 1 + 1, 0, none⟩)]) (A := #[.pointer (some ⟨w.heap.size, 0, none⟩), .pointer (some ⟨w.heap.size + 1, 0, none⟩), .pointer (some ⟨w.heap.size + 1 + 1, 0, none⟩)]) (by simp) (k := k + 10 + k2n + 5) ⟨en_cut1, fun _ _ _ h hM => cut1_any h hP _ _ _ HB.out.2.1 HB.out.2.2.1 HB.out.2.2.2.1 HA.out HF'.out Hk.out HA2.out HF2'.out Hk2.out hM⟩ (by have := Hk.out; have := Hk2.out; omega) (by have := HN.out; omega)).mono ?_); rintro e w1 ⟨rfl, h⟩; (try clear q0 q1 q2 q3); obtain ⟨q0, q1, q2, q3⟩ := h.pool; have kb := (HK.out _ _ _ h); have H := Lib.hid h; clear h))
  exact ⟨rfl, .tuple #[], (by simp [results, Try.results50, go_sem]), rfl, HB.out.1.trans (H.out.more (by omega))⟩
end

end Go.Proofs.Ythjbcpgncnchoaa
