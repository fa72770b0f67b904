/- A writer: the insides of blocks of hashes and trees. Conditions: those stated in each theorem. -/
import Derived.Test.YthjbcpgncnchoaaLbI
namespace Go.Proofs.Ythjbcpgncnchoaa
open Go.RowKit Go.BigFrame

section
variable {w w0 : World} {B N b : Nat} {P : Pl} {x : WV}

def WV.get1 (P : Pl) (F : WV → WV) (x : WV) : WV := (((x).look P F nEnd).load 1 5 P.valueAt).set 0 1
set_option maxRecDepth 100000 in
set_option maxHeartbeats 4000000 in
theorem get1_any (h : WO B P N w0 w b x) (hP : P.Ok) (c c2 : Nat) (hc : Holds w0 c 75 [.pointer (some ⟨b, 0, none⟩)]) {F : WV → WV} {k : Nat} {g : FuncId} {fs cs A : Array Value} (hc2 : Holds w0 c2 1 [.func (.func g) fs cs]) (hA : fs ++ #[] ++ cs = A) (hF : Cl B P w0 b 70000 k F g A) (hk : k ≤ 100) (hN : N ≤ 50000) : Calls Try.prog 93 #[.pointer (some ⟨c, 0, none⟩), .pointer (some ⟨c2, 0, none⟩)] w fun e w' => e = .returned (.tuple #[]) ∧ WO B P (N + (k + 10 + 2)) w0 w' b (x.get1 P F) := by
  have HK : Hid (∀ V M y, WO B P M w0 V b y → V.cell? ⟨c, 0, none⟩ = some (.pointer (some ⟨b, 0, none⟩)) ∧ V.cell? ⟨b, 0, none⟩ = some (.int .i64 P.base) ∧ V.cell? ⟨b, 1, none⟩ = some (.int .i64 P.roots) ∧ V.cell? ⟨b, 2, none⟩ = some (.int .i64 P.width) ∧ V.cell? ⟨b, 3, none⟩ = some (.int .i64 P.many) ∧ V.cell? ⟨c2, 0, none⟩ = some (.func (.func g) fs cs)) := Lib.hid (fun V M y h => ⟨(h.keep c _ _ hc (by decide) (by decide) (by decide)).cell (i := 0) rfl, h.pool.1, h.pool.2.1, h.pool.2.2.1, h.pool.2.2.2, (h.keep c2 _ _ hc2 (by decide) (by decide) (by decide)).cell (i := 0) rfl⟩)
  obtain ⟨k0, q0, q1, q2, q3, k1⟩ := HK.out _ _ _ h
  have H := Lib.hid h; clear h hc hc2
  have HN := Lib.hid hN; clear hN
  have HF := Lib.hid hF; clear hF
  have HA := Lib.hid hA; clear hA
  have Hk := Lib.hid hk; clear hk



  go_enter Try.func93, Try.ntmps93
  go_wp2_with (first | (go_at_call 83; (with_reducible refine (look_any H.out hP HA.out HF.out Hk.out nEnd (by have := HN.out; have := Hk.out; omega)).mono ?_); rintro e w1 ⟨rfl, h⟩; (try clear k0 q0 q1 q2 q3 k1); obtain ⟨k0, q0, q1, q2, q3, k1⟩ := HK.out _ _ _ h; have H := Lib.hid h; clear h))
  have hD := H.out.drew
  go_region_held3 (fun V => V.cell? ⟨c, 0, none⟩ = some (.pointer (some ⟨b, 0, none⟩)) ∧ V.cell? ⟨b, 0, none⟩ = some (.int .i64 P.base) ∧ V.cell? ⟨b, 1, none⟩ = some (.int .i64 P.roots) ∧ V.cell? ⟨b, 2, none⟩ = some (.int .i64 P.width) ∧ V.cell? ⟨b, 3, none⟩ = some (.int .i64 P.many) ∧ V.cell? ⟨c2, 0, none⟩ = some (.func (.func g) fs cs)) (first | with_reducible exact HK.out _ _ _ hD) (first | (go_at_call 84; (with_reducible refine (valueAt_any P hP _).mono ?_); rintro e V ⟨rfl, hb⟩; have hD := hD.idle hb) | (go_at_call 70; (with_reducible refine (load_any hD 1 5 P.valueAt (by have := HN.out; have := Hk.out; omega)).mono ?_); rintro e V ⟨rfl, hD⟩))
  (try clear k0 q0 q1 q2 q3 k1); obtain ⟨k0, q0, q1, q2, q3, k1⟩ := HK.out _ _ _ hD; have H := Lib.hid hD; clear hD
  go_wp2_with (first | (go_at_call 72; (with_reducible refine (set_any H.out 0 1 (by have := HN.out; have := Hk.out; omega)).mono ?_); rintro e w1 ⟨rfl, h⟩; (try clear k0 q0 q1 q2 q3 k1); obtain ⟨k0, q0, q1, q2, q3, k1⟩ := HK.out _ _ _ h; have H := Lib.hid h; clear h))
  exact ⟨rfl, .tuple #[], (by simp [results, Try.results93, go_sem]), rfl, H.out.more (by omega)⟩

def WV.cut1 (P : Pl) (F : WV → WV) (F2 : WV → WV) (x : WV) : WV := ((F2 (((x).look P F nEnd).load 1 5 P.valueAt)).give P ).set 0 1
set_option maxRecDepth 100000 in
set_option maxHeartbeats 4000000 in
theorem cut1_any (h : WO B P N w0 w b x) (hP : P.Ok) (c c2 c3 : Nat) (hc : Holds w0 c 75 [.pointer (some ⟨b, 0, none⟩)]) {F : WV → WV} {k : Nat} {g : FuncId} {fs cs A : Array Value} {F2 : WV → WV} {k2n : Nat} {g2 : FuncId} {fs2 cs2 A2 : Array Value} (hc2 : Holds w0 c2 1 [.func (.func g) fs cs]) (hc3 : Holds w0 c3 1 [.func (.func g2) fs2 cs2]) (hA : fs ++ #[] ++ cs = A) (hF : Cl B P w0 b 70000 k F g A) (hk : k ≤ 100) (hA2 : fs2 ++ #[] ++ cs2 = A2) (hF2 : Cl B P w0 b 70000 k2n F2 g2 A2) (hk2 : k2n ≤ 100) (hN : N ≤ 50000) : Calls Try.prog 91 #[.pointer (some ⟨c, 0, none⟩), .pointer (some ⟨c2, 0, none⟩), .pointer (some ⟨c3, 0, none⟩)] w fun e w' => e = .returned (.tuple #[]) ∧ WO B P (N + (k + 10 + k2n + 5)) w0 w' b (x.cut1 P F F2) := by
  have HK : Hid (∀ V M y, WO B P M w0 V b y → V.cell? ⟨c, 0, none⟩ = some (.pointer (some ⟨b, 0, none⟩)) ∧ V.cell? ⟨b, 0, none⟩ = some (.int .i64 P.base) ∧ V.cell? ⟨b, 1, none⟩ = some (.int .i64 P.roots) ∧ V.cell? ⟨b, 2, none⟩ = some (.int .i64 P.width) ∧ V.cell? ⟨b, 3, none⟩ = some (.int .i64 P.many) ∧ V.cell? ⟨c2, 0, none⟩ = some (.func (.func g) fs cs) ∧ V.cell? ⟨c3, 0, none⟩ = some (.func (.func g2) fs2 cs2)) := Lib.hid (fun V M y h => ⟨(h.keep c _ _ hc (by decide) (by decide) (by decide)).cell (i := 0) rfl, h.pool.1, h.pool.2.1, h.pool.2.2.1, h.pool.2.2.2, (h.keep c2 _ _ hc2 (by decide) (by decide) (by decide)).cell (i := 0) rfl, (h.keep c3 _ _ hc3 (by decide) (by decide) (by decide)).cell (i := 0) rfl⟩)
  obtain ⟨k0, q0, q1, q2, q3, k1, k2⟩ := HK.out _ _ _ h
  have H := Lib.hid h; clear h hc hc2 hc3
  have HN := Lib.hid hN; clear hN
  have HF := Lib.hid hF; clear hF
  have HA := Lib.hid hA; clear hA
  have Hk := Lib.hid hk; clear hk
  have HF2 := Lib.hid hF2; clear hF2
  have HA2 := Lib.hid hA2; clear hA2
  have Hk2 := Lib.hid hk2; clear hk2
  go_enter Try.func91, Try.ntmps91
  go_wp2_with (first | (go_at_call 83; (with_reducible refine (look_any H.out hP HA.out HF.out Hk.out nEnd (by have := HN.out; have := Hk.out; have := Hk2.out; omega)).mono ?_); rintro e w1 ⟨rfl, h⟩; (try clear k0 q0 q1 q2 q3 k1 k2); obtain ⟨k0, q0, q1, q2, q3, k1, k2⟩ := HK.out _ _ _ h; have H := Lib.hid h; clear h))
  have hD := H.out.drew
  go_region_held3 (fun V => V.cell? ⟨c, 0, none⟩ = some (.pointer (some ⟨b, 0, none⟩)) ∧ V.cell? ⟨b, 0, none⟩ = some (.int .i64 P.base) ∧ V.cell? ⟨b, 1, none⟩ = some (.int .i64 P.roots) ∧ V.cell? ⟨b, 2, none⟩ = some (.int .i64 P.width) ∧ V.cell? ⟨b, 3, none⟩ = some (.int .i64 P.many) ∧ V.cell? ⟨c2, 0, none⟩ = some (.func (.func g) fs cs) ∧ V.cell? ⟨c3, 0, none⟩ = some (.func (.func g2) fs2 cs2)) (first | with_reducible exact HK.out _ _ _ hD) (first | (go_at_call 84; (with_reducible refine (valueAt_any P hP _).mono ?_); rintro e V ⟨rfl, hb⟩; have hD := hD.idle hb) | (go_at_call 70; (with_reducible refine (load_any hD 1 5 P.valueAt (by have := HN.out; have := Hk.out; have := Hk2.out; omega)).mono ?_); rintro e V ⟨rfl, hD⟩))
  (try clear k0 q0 q1 q2 q3 k1 k2); obtain ⟨k0, q0, q1, q2, q3, k1, k2⟩ := HK.out _ _ _ hD; have H := Lib.hid hD; clear hD
  go_wp2_with (first | (refine wpList_callV rfl (by rfl) (by rfl) HF2.out.en _ (by simpa using HA2.out) (HF2.out.does _ _ _ H.out (by have := HN.out; have := Hk.out; have := Hk2.out; omega)) ?_; intro w1 h; (try clear k0 q0 q1 q2 q3 k1 k2); obtain ⟨k0, q0, q1, q2, q3, k1, k2⟩ := HK.out _ _ _ h; have H := Lib.hid h; clear h) | (go_at_call 92; (with_reducible refine (give_any H.out hP  (by have := HN.out; have := Hk.out; have := Hk2.out; omega)).mono ?_); rintro e w1 ⟨rfl, h⟩; (try clear k0 q0 q1 q2 q3 k1 k2); obtain ⟨k0, q0, q1, q2, q3, k1, k2⟩ := HK.out _ _ _ h; have H := Lib.hid h; clear h) | (go_at_call 72; (with_reducible refine (set_any H.out 0 1 (by have := HN.out; have := Hk.out; have := Hk2.out; omega)).mono ?_); rintro e w1 ⟨rfl, h⟩; (try clear k0 q0 q1 q2 q3 k1 k2); obtain ⟨k0, q0, q1, q2, q3, k1, k2⟩ := HK.out _ _ _ h; have H := Lib.hid h; clear h))
  exact ⟨rfl, .tuple #[], (by simp [results, Try.results91, go_sem]), rfl, H.out.more (by omega)⟩

def WV.clears (x : WV) : Nat → WV
  | 0 => x
  | n + 1 => (x.clears n).store 0 5 n
def WV.puta (P : Pl) (F : WV → WV) (x : WV) : WV := (((((((x).look P F nMissing).load 1 5 P.valueAt).store 7 5 P.valueAt).set 0 2).jump nEnd).name nMissing).take P 
def WV.putb (P : Pl) (y : WV) : WV := ((((y).store 3 5 P.keyAt).store 7 5 P.valueAt).store 5 4 0).set 0 1
def WV.put1 (P : Pl) (F : WV → WV) (x : WV) : WV := ((x.puta P F).clears P.links.toNat).putb P
set_option maxRecDepth 100000 in
set_option maxHeartbeats 4000000 in
theorem put1_any (h : WO B P N w0 w b x) (hP : P.Ok) (c c2 : Nat) (hc : Holds w0 c 75 [.pointer (some ⟨b, 0, none⟩)]) {F : WV → WV} {k : Nat} {g : FuncId} {fs cs A : Array Value} (hc2 : Holds w0 c2 1 [.func (.func g) fs cs]) (hA : fs ++ #[] ++ cs = A) (hF : Cl B P w0 b 70000 k F g A) (hk : k ≤ 100) (hN : N ≤ 50000) : Calls Try.prog 82 #[.pointer (some ⟨c, 0, none⟩), .pointer (some ⟨c2, 0, none⟩)] w fun e w' => e = .returned (.tuple #[]) ∧ WO B P (N + (k + 100)) w0 w' b (x.put1 P F) := by
  have HK : Hid (∀ V M y, WO B P M w0 V b y → V.cell? ⟨c, 0, none⟩ = some (.pointer (some ⟨b, 0, none⟩)) ∧ V.cell? ⟨b, 0, none⟩ = some (.int .i64 P.base) ∧ V.cell? ⟨b, 1, none⟩ = some (.int .i64 P.roots) ∧ V.cell? ⟨b, 2, none⟩ = some (.int .i64 P.width) ∧ V.cell? ⟨b, 3, none⟩ = some (.int .i64 P.many) ∧ V.cell? ⟨c2, 0, none⟩ = some (.func (.func g) fs cs)) := Lib.hid (fun V M y h => ⟨(h.keep c _ _ hc (by decide) (by decide) (by decide)).cell (i := 0) rfl, h.pool.1, h.pool.2.1, h.pool.2.2.1, h.pool.2.2.2, (h.keep c2 _ _ hc2 (by decide) (by decide) (by decide)).cell (i := 0) rfl⟩)
  obtain ⟨k0, q0, q1, q2, q3, k1⟩ := HK.out _ _ _ h
  have H := Lib.hid h; clear h hc hc2
  have HN := Lib.hid hN; clear hN
  have HF := Lib.hid hF; clear hF
  have HA := Lib.hid hA; clear hA
  have Hk := Lib.hid hk; clear hk
  have hn : P.links ≤ 2 := by have := hP.w1; unfold Pl.links; omega
  have Hn := Lib.hid hn; clear hn
  have hlk : ∃ n : Nat, P.links.toNat = n := ⟨_, rfl⟩
  obtain ⟨n, hln⟩ := hlk
  have Hln := Lib.hid hln; clear hln
  go_enter Try.func82, Try.ntmps82
  go_wp2_with (first | (go_at_call 83; (with_reducible refine (look_any H.out hP HA.out HF.out Hk.out nMissing (by have := HN.out; have := Hk.out; omega)).mono ?_); rintro e w1 ⟨rfl, h⟩; (try clear k0 q0 q1 q2 q3 k1); obtain ⟨k0, q0, q1, q2, q3, k1⟩ := HK.out _ _ _ h; have H := Lib.hid h; clear h))
  have hD := H.out.drew
  go_region_held3 (fun V => V.cell? ⟨c, 0, none⟩ = some (.pointer (some ⟨b, 0, none⟩)) ∧ V.cell? ⟨b, 0, none⟩ = some (.int .i64 P.base) ∧ V.cell? ⟨b, 1, none⟩ = some (.int .i64 P.roots) ∧ V.cell? ⟨b, 2, none⟩ = some (.int .i64 P.width) ∧ V.cell? ⟨b, 3, none⟩ = some (.int .i64 P.many) ∧ V.cell? ⟨c2, 0, none⟩ = some (.func (.func g) fs cs)) (first | with_reducible exact HK.out _ _ _ hD) (first | (go_at_call 84; (with_reducible refine (valueAt_any P hP _).mono ?_); rintro e V ⟨rfl, hb⟩; have hD := hD.idle hb) | (go_at_call 70; (with_reducible refine (load_any hD 1 5 P.valueAt (by have := HN.out; have := Hk.out; omega)).mono ?_); rintro e V ⟨rfl, hD⟩))
  (try clear k0 q0 q1 q2 q3 k1); obtain ⟨k0, q0, q1, q2, q3, k1⟩ := HK.out _ _ _ hD; have H := Lib.hid hD; clear hD
  go_wp2_with fail
  have hD := H.out.drew
  go_region_held3 (fun V => V.cell? ⟨c, 0, none⟩ = some (.pointer (some ⟨b, 0, none⟩)) ∧ V.cell? ⟨b, 0, none⟩ = some (.int .i64 P.base) ∧ V.cell? ⟨b, 1, none⟩ = some (.int .i64 P.roots) ∧ V.cell? ⟨b, 2, none⟩ = some (.int .i64 P.width) ∧ V.cell? ⟨b, 3, none⟩ = some (.int .i64 P.many) ∧ V.cell? ⟨c2, 0, none⟩ = some (.func (.func g) fs cs)) (first | with_reducible exact HK.out _ _ _ hD) (first | (go_at_call 84; (with_reducible refine (valueAt_any P hP _).mono ?_); rintro e V ⟨rfl, hb⟩; have hD := hD.idle hb) | (go_at_call 77; (with_reducible refine (store_any hD 7 5 P.valueAt (by have := HN.out; have := Hk.out; omega)).mono ?_); rintro e V ⟨rfl, hD⟩))
  (try clear k0 q0 q1 q2 q3 k1); obtain ⟨k0, q0, q1, q2, q3, k1⟩ := HK.out _ _ _ hD; have H := Lib.hid hD; clear hD
  go_wp2_with (first | (go_at_call 72; (with_reducible refine (set_any H.out 0 2 (by have := HN.out; have := Hk.out; omega)).mono ?_); rintro e w1 ⟨rfl, h⟩; (try clear k0 q0 q1 q2 q3 k1); obtain ⟨k0, q0, q1, q2, q3, k1⟩ := HK.out _ _ _ h; have H := Lib.hid h; clear h) | (go_at_call 85; (with_reducible refine (jump_any H.out nEnd (by have := HN.out; have := Hk.out; omega)).mono ?_); rintro e w1 ⟨rfl, h⟩; (try clear k0 q0 q1 q2 q3 k1); obtain ⟨k0, q0, q1, q2, q3, k1⟩ := HK.out _ _ _ h; have H := Lib.hid h; clear h) | (go_at_call 86; (with_reducible refine (name_any H.out nMissing (by decide) (by have := HN.out; have := Hk.out; omega)).mono ?_); rintro e w1 ⟨rfl, h⟩; (try clear k0 q0 q1 q2 q3 k1); obtain ⟨k0, q0, q1, q2, q3, k1⟩ := HK.out _ _ _ h; have H := Lib.hid h; clear h) | (go_at_call 87; (with_reducible refine (take_any H.out hP  (by have := HN.out; have := Hk.out; omega)).mono ?_); rintro e w1 ⟨rfl, h⟩; (try clear k0 q0 q1 q2 q3 k1); obtain ⟨k0, q0, q1, q2, q3, k1⟩ := HK.out _ _ _ h; have H := Lib.hid h; clear h) | (go_at_call 88; (with_reducible refine (links_any P hP _).mono ?_); rintro e w1 ⟨rfl, hb⟩; have h := H.out.idle (below_box hb); (try clear k0 q0 q1 q2 q3 k1); obtain ⟨k0, q0, q1, q2, q3, k1⟩ := HK.out _ _ _ h; have H := Lib.hid h; clear h hb))
  have H0 : Hid (WO B P (N + (k + 50)) w0 _ b (x.puta P F)) := Lib.hid (H.out.more (by omega))
  clear H
  rename_i wz _
  go_loopw [33] (fun i wr => ∃ j : Nat, (j : Int) ≤ 2 ∧ (j = 0 ∨ (j : Int) ≤ P.links) ∧ i = .int .i64 j ∧ WO B P (N + (k + 50) + j) w0 wr b ((x.puta P F).clears j)) (fun i _ => 2 - (intOf i).toNat)
  case atStart => exact ⟨0, by omega, .inl rfl, by simp, H0.out⟩
  case round =>
    obtain ⟨j, hj, hjl, rfl, h⟩ := hrel
    (try clear k0 q0 q1 q2 q3 k1); obtain ⟨k0, q0, q1, q2, q3, k1⟩ := HK.out _ _ _ h
    have H := Lib.hid h; clear h
    have Hj := Lib.hid hj
    have Hjl := Lib.hid hjl
    by_cases hlt : (j : Int) < P.links
    · go_wp2_with ((go_at_call 77; (with_reducible refine (store_any H.out 0 5 j (by have := HN.out; have := Hk.out; have := Hj.out; omega)).mono ?_); rintro e w1 ⟨rfl, h⟩; (try clear k0 q0 q1 q2 q3 k1); obtain ⟨k0, q0, q1, q2, q3, k1⟩ := HK.out _ _ _ h; have H := Lib.hid h; clear h))
      go_roundw
      case rel => exact ⟨j + 1, by have := Hn.out; omega, .inr (by omega), by simp, H.out⟩
      case measure => have := Hn.out; simp [intOf]; omega
    · have hj2 : j = P.links.toNat := by have := Hjl.out; omega
      have H1 : Hid (WO B P (N + (k + 52)) w0 _ b ((x.puta P F).clears P.links.toNat)) := Lib.hid (by have := H.out.more (M := N + (k + 52)) (by have := Hj.out; omega); rw [hj2] at this; exact this)
      clear H hj2 Hj Hjl hj hjl
      have H := H1
      clear H1
      have Hput : Hid (x.put1 P F = WV.putb P ((x.puta P F).clears P.links.toNat)) := Lib.hid rfl
      generalize (x.puta P F).clears P.links.toNat = y at *
      go_wp2_with fail
      have hD := H.out.drew
      go_region_held3 (fun V => V.cell? ⟨c, 0, none⟩ = some (.pointer (some ⟨b, 0, none⟩)) ∧ V.cell? ⟨b, 0, none⟩ = some (.int .i64 P.base) ∧ V.cell? ⟨b, 1, none⟩ = some (.int .i64 P.roots) ∧ V.cell? ⟨b, 2, none⟩ = some (.int .i64 P.width) ∧ V.cell? ⟨b, 3, none⟩ = some (.int .i64 P.many) ∧ V.cell? ⟨c2, 0, none⟩ = some (.func (.func g) fs cs)) (first | with_reducible exact HK.out _ _ _ hD) (first | (go_at_call 89; (with_reducible refine (keyAt_any P hP _).mono ?_); rintro e V ⟨rfl, hb⟩; have hD := hD.idle hb) | (go_at_call 77; (with_reducible refine (store_any hD 3 5 P.keyAt (by have := HN.out; have := Hk.out; omega)).mono ?_); rintro e V ⟨rfl, hD⟩))
      (try clear k0 q0 q1 q2 q3 k1); obtain ⟨k0, q0, q1, q2, q3, k1⟩ := HK.out _ _ _ hD; have H := Lib.hid hD; clear hD
      go_wp2_with fail
      have hD := H.out.drew
      go_region_held3 (fun V => V.cell? ⟨c, 0, none⟩ = some (.pointer (some ⟨b, 0, none⟩)) ∧ V.cell? ⟨b, 0, none⟩ = some (.int .i64 P.base) ∧ V.cell? ⟨b, 1, none⟩ = some (.int .i64 P.roots) ∧ V.cell? ⟨b, 2, none⟩ = some (.int .i64 P.width) ∧ V.cell? ⟨b, 3, none⟩ = some (.int .i64 P.many) ∧ V.cell? ⟨c2, 0, none⟩ = some (.func (.func g) fs cs)) (first | with_reducible exact HK.out _ _ _ hD) (first | (go_at_call 84; (with_reducible refine (valueAt_any P hP _).mono ?_); rintro e V ⟨rfl, hb⟩; have hD := hD.idle hb) | (go_at_call 77; (with_reducible refine (store_any hD 7 5 P.valueAt (by have := HN.out; have := Hk.out; omega)).mono ?_); rintro e V ⟨rfl, hD⟩))
      (try clear k0 q0 q1 q2 q3 k1); obtain ⟨k0, q0, q1, q2, q3, k1⟩ := HK.out _ _ _ hD; have H := Lib.hid hD; clear hD
      go_wp2_with (first | (go_at_call 77; (with_reducible refine (store_any H.out 5 4 0 (by have := HN.out; have := Hk.out; omega)).mono ?_); rintro e w1 ⟨rfl, h⟩; (try clear k0 q0 q1 q2 q3 k1); obtain ⟨k0, q0, q1, q2, q3, k1⟩ := HK.out _ _ _ h; have H := Lib.hid h; clear h) | (go_at_call 72; (with_reducible refine (set_any H.out 0 1 (by have := HN.out; have := Hk.out; omega)).mono ?_); rintro e w1 ⟨rfl, h⟩; (try clear k0 q0 q1 q2 q3 k1); obtain ⟨k0, q0, q1, q2, q3, k1⟩ := HK.out _ _ _ h; have H := Lib.hid h; clear h))
      exact ⟨rfl, .tuple #[], (by simp [results, Try.results82, go_sem]), rfl, by rw [Hput.out]; exact H.out.more (by omega)⟩
end

end Go.Proofs.Ythjbcpgncnchoaa
