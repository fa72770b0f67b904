/- IsaReckons: the law's walk. Conditions: those stated in each theorem. -/
import Derived.Test.YtpjgiecljjfdiaaDoorAlx
import Derived.Test.YtpjgiecljjfdiaaDoorRecP
namespace Go.Proofs.YtpjgiecljjfdiaaDoor
open Go.RowKit Go.BigFrame

@[local go_sem ↓ high] theorem field_val (k n r v a : Int) (w : World) : (Instr.field 27 (.agg #[.int .i64 k, .int .i64 n, .int .i64 r, .int .u64 v, .int .u64 a]) 3).run Tryd.prog w = .ok (.int .u64 v) w := by kernel_rfl
@[local go_sem ↓ high] theorem field_next (k n r v a : Int) (w : World) : (Instr.field 27 (.agg #[.int .i64 k, .int .i64 n, .int .i64 r, .int .u64 v, .int .u64 a]) 1).run Tryd.prog w = .ok (.int .i64 n) w := by kernel_rfl

set_option maxRecDepth 100000 in
set_option maxHeartbeats 1000000 in
theorem do1_any {op a b c : Nat} (h : 4 ≤ op ∧ op ≤ 10) (ha : a < 8) (hb : b < 8) (hc : c < 8) (x : L8) (hx : x.Ok) (n : Nat) (w : World) (hs : Std w) (hn : Holds w n 25 x.cells) :
    Calls Tryd.prog 24 #[.int .i64 op, .int .i64 a, .int .i64 b, .int .i64 c, .pointer (some ⟨n, 0, none⟩)] w fun e w' => e = .returned (.int .u64 (reckP op (x.get b) (x.get c))) ∧ Below w.heap.size w w' := by
  have hd := do_any ⟨op, a, b, c, 0⟩ x 0 w hs.forms hx
  have hv := do_reck h hb hc ha x
  simp only [In.val, L8.val, Ef.value] at hd
  rw [hv] at hd
  generalize doP ⟨op, a, b, c, 0⟩ x 0 = z at hd
  generalize reckP op (x.get b) (x.get c) = v at *
  have c0 := hn.cell (i := 0) rfl
  have c1 := hn.cell (i := 1) rfl
  have c2 := hn.cell (i := 2) rfl
  have c3 := hn.cell (i := 3) rfl
  have c4 := hn.cell (i := 4) rfl
  have c5 := hn.cell (i := 5) rfl
  have c6 := hn.cell (i := 6) rfl
  have c7 := hn.cell (i := 7) rfl
  have Hd := Lib.hid hd; clear hd hv hn hs hx h ha hb hc
  go_enter Tryd.func24, Tryd.ntmps24
  go_wp2_with (go_at_call 10; with_reducible refine Hd.out.mono ?_; rintro e w2 ⟨rfl, hb2⟩)
  go_ret
  exact ⟨rfl, hb2⟩

set_option maxRecDepth 100000 in
set_option maxHeartbeats 1000000 in
theorem go_lt (op : Nat) (ho : op = 14 ∨ op = 15 ∨ op = 16) (a b : Nat) (ha : a < 2) (hb : b < 2) (x : L8) : doP ⟨op, a, b, 0, 9⟩ x 0 = ⟨2, if goesP ⟨op, a, b, 0, 9⟩ x then 9 else 1, 0, 0, 0⟩ := by
  have hl : legalP ⟨op, a, b, 0, 9⟩ = true := by
    rcases ho with rfl | rfl | rfl <;> match a, ha, b, hb with | 0, _, 0, _ | 0, _, 1, _ | 1, _, 0, _ | 1, _, 1, _ => decide
  unfold doP
  rw [if_neg (by rw [hl]; simp), if_neg (by simp only; omega), if_neg (by simp only; omega), if_neg (by simp only; omega), if_neg (by simp only; omega), if_neg (by simp only; omega), if_pos (by simp only; omega)]
  unfold branchP
  cases goesP ⟨op, a, b, 0, 9⟩ x <;> simp

set_option maxRecDepth 100000 in
set_option maxHeartbeats 4000000 in
theorem reckons_any (a b c : Int) (hab : U64 a) (hbb : U64 b) (hcb : U64 c) (w : World) (hs : Std w) : Calls Tryd.prog 9 #[.int .u64 a, .int .u64 b, .int .u64 c] w fun e w' => e = .returned (.bool true) ∧ Below w.heap.size w w' := by
  obtain ⟨r4, e4⟩ : ∃ z, IntKind.u64.wrap (a + b) = z := ⟨_, rfl⟩
  obtain ⟨rx, ex⟩ : ∃ z, Go.bits .xor .u64 a b = z := ⟨_, rfl⟩
  obtain ⟨ra, ea⟩ : ∃ z, Go.bits .and .u64 a b = z := ⟨_, rfl⟩
  obtain ⟨r2, e2⟩ : ∃ z, IntKind.u64.wrap (ra + ra) = z := ⟨_, rfl⟩
  obtain ⟨rs, es⟩ : ∃ z : Int, 2 ^ (c % 64).toNat = z := ⟨_, rfl⟩
  obtain ⟨rp, ep⟩ : ∃ z, IntKind.u64.wrap (a * rs) = z := ⟨_, rfl⟩
  obtain ⟨rq, eq⟩ : ∃ z, rp / rs = z := ⟨_, rfl⟩
  have h1b : U64 1 := by unfold U64; omega
  have h0b : U64 0 := by unfold U64; omega
  have u4 : U64 r4 := e4 ▸ w64 _
  have ux : U64 rx := ex ▸ xor_u hab hbb
  have ua : U64 ra := ea ▸ and_u hab hbb
  have u2 : U64 r2 := e2 ▸ w64 _
  have hpw := pow_lt hcb
  rw [es] at hpw
  have us : U64 rs := ⟨by omega, hpw.2.1⟩
  have up : U64 rp := ep ▸ w64 _
  have uq : U64 rq := by
    rw [← eq]; unfold U64 at up ⊢
    exact ⟨Int.ediv_nonneg up.1 (by omega), Int.lt_of_le_of_lt (Int.ediv_le_self _ up.1) up.2⟩
  have hs0 : (rs == 0) = false := by rw [beq_eq_false_iff_ne]; omega
  have v0 : reckP ((4 : Nat) : Int) ((⟨a, b, c, 1, 0, 0, 0, 0⟩ : L8).get 0) ((⟨a, b, c, 1, 0, 0, 0, 0⟩ : L8).get 1) = r4 := by show IntKind.u64.wrap (a + b) = r4; exact e4
  have v1 : reckP ((5 : Nat) : Int) ((⟨a, b, c, 1, r4, 0, 0, 0⟩ : L8).get 4) ((⟨a, b, c, 1, r4, 0, 0, 0⟩ : L8).get 1) = a := by show IntKind.u64.wrap (r4 - b) = a; rw [← e4]; exact back_add hab hbb
  have v2 : reckP ((8 : Nat) : Int) ((⟨a, b, c, 1, r4, a, 0, 0⟩ : L8).get 0) ((⟨a, b, c, 1, r4, a, 0, 0⟩ : L8).get 1) = rx := by show Go.bits .xor .u64 a b = rx; exact ex
  have v3 : reckP ((7 : Nat) : Int) ((⟨a, b, c, 1, r4, rx, 0, 0⟩ : L8).get 0) ((⟨a, b, c, 1, r4, rx, 0, 0⟩ : L8).get 1) = ra := by show Go.bits .and .u64 a b = ra; exact ea
  have v4 : reckP ((4 : Nat) : Int) ((⟨a, b, c, 1, r4, rx, ra, 0⟩ : L8).get 6) ((⟨a, b, c, 1, r4, rx, ra, 0⟩ : L8).get 6) = r2 := by show IntKind.u64.wrap (ra + ra) = r2; exact e2
  have v5 : reckP ((4 : Nat) : Int) ((⟨a, b, c, 1, r4, rx, ra, r2⟩ : L8).get 5) ((⟨a, b, c, 1, r4, rx, ra, r2⟩ : L8).get 7) = r4 := by show IntKind.u64.wrap (rx + r2) = r4; rw [← e4, ← e2, ← ea, ← ex]; exact carry_add hab hbb
  have v6 : reckP ((9 : Nat) : Int) ((⟨a, b, c, 1, r4, rx, ra, r4⟩ : L8).get 3) ((⟨a, b, c, 1, r4, rx, ra, r4⟩ : L8).get 2) = rs := by show IntKind.u64.wrap (1 * 2 ^ (c % 64).toNat) = rs; rw [← es]; exact one_shl hcb
  have v7 : reckP ((6 : Nat) : Int) ((⟨a, b, c, 1, r4, rs, ra, r4⟩ : L8).get 0) ((⟨a, b, c, 1, r4, rs, ra, r4⟩ : L8).get 5) = rp := by show IntKind.u64.wrap (a * rs) = rp; exact ep
  have v8 : reckP ((9 : Nat) : Int) ((⟨a, b, c, 1, r4, rs, rp, r4⟩ : L8).get 0) ((⟨a, b, c, 1, r4, rs, rp, r4⟩ : L8).get 2) = rp := by show IntKind.u64.wrap (a * 2 ^ (c % 64).toNat) = rp; rw [es]; exact ep
  have v9 : reckP ((10 : Nat) : Int) ((⟨a, b, c, 1, r4, rs, rp, rp⟩ : L8).get 7) ((⟨a, b, c, 1, r4, rs, rp, rp⟩ : L8).get 2) = rq := by show rp / 2 ^ (c % 64).toNat = rq; rw [es]; exact eq
  have v10 : reckP ((9 : Nat) : Int) ((⟨a, b, c, 1, r4, rs, rq, rp⟩ : L8).get 6) ((⟨a, b, c, 1, r4, rs, rq, rp⟩ : L8).get 2) = rp := by show IntKind.u64.wrap (rq * 2 ^ (c % 64).toNat) = rp; rw [← eq, ← ep, ← es]; exact shl_shr hcb
  have k0 : (⟨a, b, c, 1, 0, 0, 0, 0⟩ : L8).Ok := fun k hk => by match k, hk with | 0, _ => exact hab | 1, _ => exact hbb | 2, _ => exact hcb | 3, _ => exact h1b | 4, _ => exact h0b | 5, _ => exact h0b | 6, _ => exact h0b | 7, _ => exact h0b
  have k1 : (⟨a, b, c, 1, r4, 0, 0, 0⟩ : L8).Ok := fun k hk => by match k, hk with | 0, _ => exact hab | 1, _ => exact hbb | 2, _ => exact hcb | 3, _ => exact h1b | 4, _ => exact u4 | 5, _ => exact h0b | 6, _ => exact h0b | 7, _ => exact h0b
  have k2 : (⟨a, b, c, 1, r4, a, 0, 0⟩ : L8).Ok := fun k hk => by match k, hk with | 0, _ => exact hab | 1, _ => exact hbb | 2, _ => exact hcb | 3, _ => exact h1b | 4, _ => exact u4 | 5, _ => exact hab | 6, _ => exact h0b | 7, _ => exact h0b
  have k3 : (⟨a, b, c, 1, r4, rx, 0, 0⟩ : L8).Ok := fun k hk => by match k, hk with | 0, _ => exact hab | 1, _ => exact hbb | 2, _ => exact hcb | 3, _ => exact h1b | 4, _ => exact u4 | 5, _ => exact ux | 6, _ => exact h0b | 7, _ => exact h0b
  have k4 : (⟨a, b, c, 1, r4, rx, ra, 0⟩ : L8).Ok := fun k hk => by match k, hk with | 0, _ => exact hab | 1, _ => exact hbb | 2, _ => exact hcb | 3, _ => exact h1b | 4, _ => exact u4 | 5, _ => exact ux | 6, _ => exact ua | 7, _ => exact h0b
  have k5 : (⟨a, b, c, 1, r4, rx, ra, r2⟩ : L8).Ok := fun k hk => by match k, hk with | 0, _ => exact hab | 1, _ => exact hbb | 2, _ => exact hcb | 3, _ => exact h1b | 4, _ => exact u4 | 5, _ => exact ux | 6, _ => exact ua | 7, _ => exact u2
  have k6 : (⟨a, b, c, 1, r4, rx, ra, r4⟩ : L8).Ok := fun k hk => by match k, hk with | 0, _ => exact hab | 1, _ => exact hbb | 2, _ => exact hcb | 3, _ => exact h1b | 4, _ => exact u4 | 5, _ => exact ux | 6, _ => exact ua | 7, _ => exact u4
  have k7 : (⟨a, b, c, 1, r4, rs, ra, r4⟩ : L8).Ok := fun k hk => by match k, hk with | 0, _ => exact hab | 1, _ => exact hbb | 2, _ => exact hcb | 3, _ => exact h1b | 4, _ => exact u4 | 5, _ => exact us | 6, _ => exact ua | 7, _ => exact u4
  have k8 : (⟨a, b, c, 1, r4, rs, rp, r4⟩ : L8).Ok := fun k hk => by match k, hk with | 0, _ => exact hab | 1, _ => exact hbb | 2, _ => exact hcb | 3, _ => exact h1b | 4, _ => exact u4 | 5, _ => exact us | 6, _ => exact up | 7, _ => exact u4
  have k9 : (⟨a, b, c, 1, r4, rs, rp, rp⟩ : L8).Ok := fun k hk => by match k, hk with | 0, _ => exact hab | 1, _ => exact hbb | 2, _ => exact hcb | 3, _ => exact h1b | 4, _ => exact u4 | 5, _ => exact us | 6, _ => exact up | 7, _ => exact up
  have k10 : (⟨a, b, c, 1, r4, rs, rq, rp⟩ : L8).Ok := fun k hk => by match k, hk with | 0, _ => exact hab | 1, _ => exact hbb | 2, _ => exact hcb | 3, _ => exact h1b | 4, _ => exact u4 | 5, _ => exact us | 6, _ => exact uq | 7, _ => exact up
  have k11 : (⟨a, b, c, 1, r4, rs, rp, rp⟩ : L8).Ok := fun k hk => by match k, hk with | 0, _ => exact hab | 1, _ => exact hbb | 2, _ => exact hcb | 3, _ => exact h1b | 4, _ => exact u4 | 5, _ => exact us | 6, _ => exact up | 7, _ => exact up
  have V0 := Lib.hid v0; clear v0
  have V1 := Lib.hid v1; clear v1
  have V2 := Lib.hid v2; clear v2
  have V3 := Lib.hid v3; clear v3
  have V4 := Lib.hid v4; clear v4
  have V5 := Lib.hid v5; clear v5
  have V6 := Lib.hid v6; clear v6
  have V7 := Lib.hid v7; clear v7
  have V8 := Lib.hid v8; clear v8
  have V9 := Lib.hid v9; clear v9
  have V10 := Lib.hid v10; clear v10
  have K0 := Lib.hid k0; clear k0
  have K1 := Lib.hid k1; clear k1
  have K2 := Lib.hid k2; clear k2
  have K3 := Lib.hid k3; clear k3
  have K4 := Lib.hid k4; clear k4
  have K5 := Lib.hid k5; clear k5
  have K6 := Lib.hid k6; clear k6
  have K7 := Lib.hid k7; clear k7
  have K8 := Lib.hid k8; clear k8
  have K9 := Lib.hid k9; clear k9
  have K10 := Lib.hid k10; clear k10
  have K11 := Lib.hid k11; clear k11
  clear e4 ex ea e2 es ep eq u4 ux ua u2 us up uq hpw hab hbb hcb h1b h0b
  have Hal := Lib.hid (fun W (hb : Below w.heap.size w W) => alive_any W (hs.below hb))
  have HS := Lib.hid hs; clear hs
  go_enter Tryd.func9, Tryd.ntmps9
  go_wp2_with fail
  go_at_call 21
  refine (Hal.out _ (Below.refl _ _)).mono ?_
  rintro e w1 ⟨rfl, hb1⟩
  clear Hal
  go_wp2_with fail
  have hx0 : Holds (w1.alloc (.cells #[.int .u64 a, .int .u64 b, .int .u64 c, .int .u64 1, .int .u64 0, .int .u64 0, .int .u64 0, .int .u64 0] 25)) w1.heap.size 25 [.int .u64 a, .int .u64 b, .int .u64 c, .int .u64 1, .int .u64 0, .int .u64 0, .int .u64 0, .int .u64 0] := Holds.new w1 25 [.int .u64 a, .int .u64 b, .int .u64 c, .int .u64 1, .int .u64 0, .int .u64 0, .int .u64 0, .int .u64 0]
  have hb0 : Below w.heap.size w (w1.alloc (.cells #[.int .u64 a, .int .u64 b, .int .u64 c, .int .u64 1, .int .u64 0, .int .u64 0, .int .u64 0, .int .u64 0] 25)) := hb1.alloc hb1.size _
  generalize w1.alloc (.cells #[.int .u64 a, .int .u64 b, .int .u64 c, .int .u64 1, .int .u64 0, .int .u64 0, .int .u64 0, .int .u64 0] 25) = W0 at *
  have hq := hb1.size
  generalize w1.heap.size = q at *
  have HX := Lib.hid hx0; clear hx0
  have HB := Lib.hid hb0; clear hb0 hb1
  go_at_call 24
  refine (do1_any (op := 4) (a := 4) (b := 0) (c := 1) (by omega) (by omega) (by omega) (by omega) ⟨a, b, c, 1, 0, 0, 0, 0⟩ K0.out q _ (HS.out.below HB.out) HX.out).mono ?_
  rw [V0.out]
  rintro e w2 ⟨rfl, hb⟩
  have hx := HX.out.below hb
  have c0 := hx.cell (i := 0) rfl
  have c1 := hx.cell (i := 1) rfl
  have c2 := hx.cell (i := 2) rfl
  have c3 := hx.cell (i := 3) rfl
  have c4 := hx.cell (i := 4) rfl
  have c5 := hx.cell (i := 5) rfl
  have c6 := hx.cell (i := 6) rfl
  have c7 := hx.cell (i := 7) rfl
  have f := hx.free 4
  have hx2 : Holds (w2.setCell ⟨q, 4, none⟩ (.int .u64 r4)) q 25 [.int .u64 a, .int .u64 b, .int .u64 c, .int .u64 1, .int .u64 r4, .int .u64 0, .int .u64 0, .int .u64 0] := hx.set 4 _
  have hb2 : Below w.heap.size w (w2.setCell ⟨q, 4, none⟩ (.int .u64 r4)) := (HB.out.trans (hb.mono HB.out.size)).setCell hq _
  clear HX HB hb hx
  have HX := Lib.hid hx2; clear hx2
  have HB := Lib.hid hb2; clear hb2
  go_wp2_with fail
  generalize w2.setCell ⟨q, 4, none⟩ (.int .u64 r4) = W1 at *
  clear c0 c1 c2 c3 c4 c5 c6 c7 f
  go_at_call 24
  refine (do1_any (op := 5) (a := 5) (b := 4) (c := 1) (by omega) (by omega) (by omega) (by omega) ⟨a, b, c, 1, r4, 0, 0, 0⟩ K1.out q _ (HS.out.below HB.out) HX.out).mono ?_
  rw [V1.out]
  rintro e w3 ⟨rfl, hb⟩
  have hx := HX.out.below hb
  have c0 := hx.cell (i := 0) rfl
  have c1 := hx.cell (i := 1) rfl
  have c2 := hx.cell (i := 2) rfl
  have c3 := hx.cell (i := 3) rfl
  have c4 := hx.cell (i := 4) rfl
  have c5 := hx.cell (i := 5) rfl
  have c6 := hx.cell (i := 6) rfl
  have c7 := hx.cell (i := 7) rfl
  have f := hx.free 5
  have hx2 : Holds (w3.setCell ⟨q, 5, none⟩ (.int .u64 a)) q 25 [.int .u64 a, .int .u64 b, .int .u64 c, .int .u64 1, .int .u64 r4, .int .u64 a, .int .u64 0, .int .u64 0] := hx.set 5 _
  have hb2 : Below w.heap.size w (w3.setCell ⟨q, 5, none⟩ (.int .u64 a)) := (HB.out.trans (hb.mono HB.out.size)).setCell hq _
  clear HX HB hb hx
  have HX := Lib.hid hx2; clear hx2
  have HB := Lib.hid hb2; clear hb2
  go_wp2_with fail
  generalize w3.setCell ⟨q, 5, none⟩ (.int .u64 a) = W2 at *
  clear c0 c1 c2 c3 c4 c5 c6 c7 f
  go_at_call 24
  refine (do1_any (op := 8) (a := 5) (b := 0) (c := 1) (by omega) (by omega) (by omega) (by omega) ⟨a, b, c, 1, r4, a, 0, 0⟩ K2.out q _ (HS.out.below HB.out) HX.out).mono ?_
  rw [V2.out]
  rintro e w4 ⟨rfl, hb⟩
  have hx := HX.out.below hb
  have c0 := hx.cell (i := 0) rfl
  have c1 := hx.cell (i := 1) rfl
  have c2 := hx.cell (i := 2) rfl
  have c3 := hx.cell (i := 3) rfl
  have c4 := hx.cell (i := 4) rfl
  have c5 := hx.cell (i := 5) rfl
  have c6 := hx.cell (i := 6) rfl
  have c7 := hx.cell (i := 7) rfl
  have f := hx.free 5
  have hx2 : Holds (w4.setCell ⟨q, 5, none⟩ (.int .u64 rx)) q 25 [.int .u64 a, .int .u64 b, .int .u64 c, .int .u64 1, .int .u64 r4, .int .u64 rx, .int .u64 0, .int .u64 0] := hx.set 5 _
  have hb2 : Below w.heap.size w (w4.setCell ⟨q, 5, none⟩ (.int .u64 rx)) := (HB.out.trans (hb.mono HB.out.size)).setCell hq _
  clear HX HB hb hx
  have HX := Lib.hid hx2; clear hx2
  have HB := Lib.hid hb2; clear hb2
  go_wp2_with fail
  generalize w4.setCell ⟨q, 5, none⟩ (.int .u64 rx) = W3 at *
  clear c0 c1 c2 c3 c4 c5 c6 c7 f
  go_at_call 24
  refine (do1_any (op := 7) (a := 6) (b := 0) (c := 1) (by omega) (by omega) (by omega) (by omega) ⟨a, b, c, 1, r4, rx, 0, 0⟩ K3.out q _ (HS.out.below HB.out) HX.out).mono ?_
  rw [V3.out]
  rintro e w5 ⟨rfl, hb⟩
  have hx := HX.out.below hb
  have c0 := hx.cell (i := 0) rfl
  have c1 := hx.cell (i := 1) rfl
  have c2 := hx.cell (i := 2) rfl
  have c3 := hx.cell (i := 3) rfl
  have c4 := hx.cell (i := 4) rfl
  have c5 := hx.cell (i := 5) rfl
  have c6 := hx.cell (i := 6) rfl
  have c7 := hx.cell (i := 7) rfl
  have f := hx.free 6
  have hx2 : Holds (w5.setCell ⟨q, 6, none⟩ (.int .u64 ra)) q 25 [.int .u64 a, .int .u64 b, .int .u64 c, .int .u64 1, .int .u64 r4, .int .u64 rx, .int .u64 ra, .int .u64 0] := hx.set 6 _
  have hb2 : Below w.heap.size w (w5.setCell ⟨q, 6, none⟩ (.int .u64 ra)) := (HB.out.trans (hb.mono HB.out.size)).setCell hq _
  clear HX HB hb hx
  have HX := Lib.hid hx2; clear hx2
  have HB := Lib.hid hb2; clear hb2
  go_wp2_with fail
  generalize w5.setCell ⟨q, 6, none⟩ (.int .u64 ra) = W4 at *
  clear c0 c1 c2 c3 c4 c5 c6 c7 f
  go_at_call 24
  refine (do1_any (op := 4) (a := 7) (b := 6) (c := 6) (by omega) (by omega) (by omega) (by omega) ⟨a, b, c, 1, r4, rx, ra, 0⟩ K4.out q _ (HS.out.below HB.out) HX.out).mono ?_
  rw [V4.out]
  rintro e w6 ⟨rfl, hb⟩
  have hx := HX.out.below hb
  have c0 := hx.cell (i := 0) rfl
  have c1 := hx.cell (i := 1) rfl
  have c2 := hx.cell (i := 2) rfl
  have c3 := hx.cell (i := 3) rfl
  have c4 := hx.cell (i := 4) rfl
  have c5 := hx.cell (i := 5) rfl
  have c6 := hx.cell (i := 6) rfl
  have c7 := hx.cell (i := 7) rfl
  have f := hx.free 7
  have hx2 : Holds (w6.setCell ⟨q, 7, none⟩ (.int .u64 r2)) q 25 [.int .u64 a, .int .u64 b, .int .u64 c, .int .u64 1, .int .u64 r4, .int .u64 rx, .int .u64 ra, .int .u64 r2] := hx.set 7 _
  have hb2 : Below w.heap.size w (w6.setCell ⟨q, 7, none⟩ (.int .u64 r2)) := (HB.out.trans (hb.mono HB.out.size)).setCell hq _
  clear HX HB hb hx
  have HX := Lib.hid hx2; clear hx2
  have HB := Lib.hid hb2; clear hb2
  go_wp2_with fail
  generalize w6.setCell ⟨q, 7, none⟩ (.int .u64 r2) = W5 at *
  clear c0 c1 c2 c3 c4 c5 c6 c7 f
  go_at_call 24
  refine (do1_any (op := 4) (a := 7) (b := 5) (c := 7) (by omega) (by omega) (by omega) (by omega) ⟨a, b, c, 1, r4, rx, ra, r2⟩ K5.out q _ (HS.out.below HB.out) HX.out).mono ?_
  rw [V5.out]
  rintro e w7 ⟨rfl, hb⟩
  have hx := HX.out.below hb
  have c0 := hx.cell (i := 0) rfl
  have c1 := hx.cell (i := 1) rfl
  have c2 := hx.cell (i := 2) rfl
  have c3 := hx.cell (i := 3) rfl
  have c4 := hx.cell (i := 4) rfl
  have c5 := hx.cell (i := 5) rfl
  have c6 := hx.cell (i := 6) rfl
  have c7 := hx.cell (i := 7) rfl
  have f := hx.free 7
  have hx2 : Holds (w7.setCell ⟨q, 7, none⟩ (.int .u64 r4)) q 25 [.int .u64 a, .int .u64 b, .int .u64 c, .int .u64 1, .int .u64 r4, .int .u64 rx, .int .u64 ra, .int .u64 r4] := hx.set 7 _
  have hb2 : Below w.heap.size w (w7.setCell ⟨q, 7, none⟩ (.int .u64 r4)) := (HB.out.trans (hb.mono HB.out.size)).setCell hq _
  clear HX HB hb hx
  have HX := Lib.hid hx2; clear hx2
  have HB := Lib.hid hb2; clear hb2
  go_wp2_with fail
  generalize w7.setCell ⟨q, 7, none⟩ (.int .u64 r4) = W6 at *
  clear c0 c1 c2 c3 c4 c5 c6 c7 f
  go_at_call 24
  refine (do1_any (op := 9) (a := 5) (b := 3) (c := 2) (by omega) (by omega) (by omega) (by omega) ⟨a, b, c, 1, r4, rx, ra, r4⟩ K6.out q _ (HS.out.below HB.out) HX.out).mono ?_
  rw [V6.out]
  rintro e w8 ⟨rfl, hb⟩
  have hx := HX.out.below hb
  have c0 := hx.cell (i := 0) rfl
  have c1 := hx.cell (i := 1) rfl
  have c2 := hx.cell (i := 2) rfl
  have c3 := hx.cell (i := 3) rfl
  have c4 := hx.cell (i := 4) rfl
  have c5 := hx.cell (i := 5) rfl
  have c6 := hx.cell (i := 6) rfl
  have c7 := hx.cell (i := 7) rfl
  have f := hx.free 5
  have hx2 : Holds (w8.setCell ⟨q, 5, none⟩ (.int .u64 rs)) q 25 [.int .u64 a, .int .u64 b, .int .u64 c, .int .u64 1, .int .u64 r4, .int .u64 rs, .int .u64 ra, .int .u64 r4] := hx.set 5 _
  have hb2 : Below w.heap.size w (w8.setCell ⟨q, 5, none⟩ (.int .u64 rs)) := (HB.out.trans (hb.mono HB.out.size)).setCell hq _
  clear HX HB hb hx
  have HX := Lib.hid hx2; clear hx2
  have HB := Lib.hid hb2; clear hb2
  go_wp2_with fail
  generalize w8.setCell ⟨q, 5, none⟩ (.int .u64 rs) = W7 at *
  clear c0 c1 c2 c3 c4 c5 c6 c7 f
  go_at_call 24
  refine (do1_any (op := 6) (a := 6) (b := 0) (c := 5) (by omega) (by omega) (by omega) (by omega) ⟨a, b, c, 1, r4, rs, ra, r4⟩ K7.out q _ (HS.out.below HB.out) HX.out).mono ?_
  rw [V7.out]
  rintro e w9 ⟨rfl, hb⟩
  have hx := HX.out.below hb
  have c0 := hx.cell (i := 0) rfl
  have c1 := hx.cell (i := 1) rfl
  have c2 := hx.cell (i := 2) rfl
  have c3 := hx.cell (i := 3) rfl
  have c4 := hx.cell (i := 4) rfl
  have c5 := hx.cell (i := 5) rfl
  have c6 := hx.cell (i := 6) rfl
  have c7 := hx.cell (i := 7) rfl
  have f := hx.free 6
  have hx2 : Holds (w9.setCell ⟨q, 6, none⟩ (.int .u64 rp)) q 25 [.int .u64 a, .int .u64 b, .int .u64 c, .int .u64 1, .int .u64 r4, .int .u64 rs, .int .u64 rp, .int .u64 r4] := hx.set 6 _
  have hb2 : Below w.heap.size w (w9.setCell ⟨q, 6, none⟩ (.int .u64 rp)) := (HB.out.trans (hb.mono HB.out.size)).setCell hq _
  clear HX HB hb hx
  have HX := Lib.hid hx2; clear hx2
  have HB := Lib.hid hb2; clear hb2
  go_wp2_with fail
  generalize w9.setCell ⟨q, 6, none⟩ (.int .u64 rp) = W8 at *
  clear c0 c1 c2 c3 c4 c5 c6 c7 f
  go_at_call 24
  refine (do1_any (op := 9) (a := 7) (b := 0) (c := 2) (by omega) (by omega) (by omega) (by omega) ⟨a, b, c, 1, r4, rs, rp, r4⟩ K8.out q _ (HS.out.below HB.out) HX.out).mono ?_
  rw [V8.out]
  rintro e w10 ⟨rfl, hb⟩
  have hx := HX.out.below hb
  have c0 := hx.cell (i := 0) rfl
  have c1 := hx.cell (i := 1) rfl
  have c2 := hx.cell (i := 2) rfl
  have c3 := hx.cell (i := 3) rfl
  have c4 := hx.cell (i := 4) rfl
  have c5 := hx.cell (i := 5) rfl
  have c6 := hx.cell (i := 6) rfl
  have c7 := hx.cell (i := 7) rfl
  have f := hx.free 7
  have hx2 : Holds (w10.setCell ⟨q, 7, none⟩ (.int .u64 rp)) q 25 [.int .u64 a, .int .u64 b, .int .u64 c, .int .u64 1, .int .u64 r4, .int .u64 rs, .int .u64 rp, .int .u64 rp] := hx.set 7 _
  have hb2 : Below w.heap.size w (w10.setCell ⟨q, 7, none⟩ (.int .u64 rp)) := (HB.out.trans (hb.mono HB.out.size)).setCell hq _
  clear HX HB hb hx
  have HX := Lib.hid hx2; clear hx2
  have HB := Lib.hid hb2; clear hb2
  go_wp2_with fail
  generalize w10.setCell ⟨q, 7, none⟩ (.int .u64 rp) = W9 at *
  clear c0 c1 c2 c3 c4 c5 c6 c7 f
  go_at_call 24
  refine (do1_any (op := 10) (a := 6) (b := 7) (c := 2) (by omega) (by omega) (by omega) (by omega) ⟨a, b, c, 1, r4, rs, rp, rp⟩ K9.out q _ (HS.out.below HB.out) HX.out).mono ?_
  rw [V9.out]
  rintro e w11 ⟨rfl, hb⟩
  have hx := HX.out.below hb
  have c0 := hx.cell (i := 0) rfl
  have c1 := hx.cell (i := 1) rfl
  have c2 := hx.cell (i := 2) rfl
  have c3 := hx.cell (i := 3) rfl
  have c4 := hx.cell (i := 4) rfl
  have c5 := hx.cell (i := 5) rfl
  have c6 := hx.cell (i := 6) rfl
  have c7 := hx.cell (i := 7) rfl
  have f := hx.free 6
  have hx2 : Holds (w11.setCell ⟨q, 6, none⟩ (.int .u64 rq)) q 25 [.int .u64 a, .int .u64 b, .int .u64 c, .int .u64 1, .int .u64 r4, .int .u64 rs, .int .u64 rq, .int .u64 rp] := hx.set 6 _
  have hb2 : Below w.heap.size w (w11.setCell ⟨q, 6, none⟩ (.int .u64 rq)) := (HB.out.trans (hb.mono HB.out.size)).setCell hq _
  clear HX HB hb hx
  have HX := Lib.hid hx2; clear hx2
  have HB := Lib.hid hb2; clear hb2
  go_wp2_with fail
  generalize w11.setCell ⟨q, 6, none⟩ (.int .u64 rq) = W10 at *
  clear c0 c1 c2 c3 c4 c5 c6 c7 f
  go_at_call 24
  refine (do1_any (op := 9) (a := 6) (b := 6) (c := 2) (by omega) (by omega) (by omega) (by omega) ⟨a, b, c, 1, r4, rs, rq, rp⟩ K10.out q _ (HS.out.below HB.out) HX.out).mono ?_
  rw [V10.out]
  rintro e w12 ⟨rfl, hb⟩
  have hx := HX.out.below hb
  have c0 := hx.cell (i := 0) rfl
  have c1 := hx.cell (i := 1) rfl
  have c2 := hx.cell (i := 2) rfl
  have c3 := hx.cell (i := 3) rfl
  have c4 := hx.cell (i := 4) rfl
  have c5 := hx.cell (i := 5) rfl
  have c6 := hx.cell (i := 6) rfl
  have c7 := hx.cell (i := 7) rfl
  have f := hx.free 6
  have hx2 : Holds (w12.setCell ⟨q, 6, none⟩ (.int .u64 rp)) q 25 [.int .u64 a, .int .u64 b, .int .u64 c, .int .u64 1, .int .u64 r4, .int .u64 rs, .int .u64 rp, .int .u64 rp] := hx.set 6 _
  have hb2 : Below w.heap.size w (w12.setCell ⟨q, 6, none⟩ (.int .u64 rp)) := (HB.out.trans (hb.mono HB.out.size)).setCell hq _
  clear HX HB hb hx
  have HX := Lib.hid hx2; clear hx2
  have HB := Lib.hid hb2; clear hb2
  go_wp2_with fail
  generalize w12.setCell ⟨q, 6, none⟩ (.int .u64 rp) = W11 at *
  clear c0 c1 c2 c3 c4 c5 c6 c7 f
  have hx := HX.out
  clear HX V0 V1 V2 V3 V4 V5 V6 V7 V8 V9 V10 K0 K1 K2 K3 K4 K5 K6 K7 K8 K9 K10
  have HX := Lib.hid hx; clear hx
  rcases (by omega : a < b ∨ a = b ∨ b < a) with hab | hab | hab
  · have l1 : a < b := hab
    have l2 : ¬ b < a := by omega
    have l3 : (a == b) = false := by rw [beq_eq_false_iff_ne]; omega
    go_at_call 10
    have hd := do_any ⟨16, 0, 1, 0, 9⟩ ⟨a, b, c, 1, r4, rs, rp, rp⟩ 0 _ (HS.out.below HB.out).forms K11.out
    rw [show doP ⟨16, 0, 1, 0, 9⟩ ⟨a, b, c, 1, r4, rs, rp, rp⟩ 0 = ⟨2, 9, 0, 0, 0⟩ from (go_lt 16 (by omega) 0 1 (by omega) (by omega) _).trans (by simp [goesP, L8.get]; omega)] at hd
    simp only [Ef.value, In.val, L8.val] at hd
    refine (show Calls Tryd.prog 10 _ _ _ from hd).mono ?_
    rintro e w20 ⟨rfl, hb⟩
    clear hd
    have hx := HX.out.below hb
    have c0 := hx.cell (i := 0) rfl
    have c1 := hx.cell (i := 1) rfl
    have c2 := hx.cell (i := 2) rfl
    have c3 := hx.cell (i := 3) rfl
    have c4 := hx.cell (i := 4) rfl
    have c5 := hx.cell (i := 5) rfl
    have c6 := hx.cell (i := 6) rfl
    have c7 := hx.cell (i := 7) rfl
    have hb2 := HB.out.trans (hb.mono HB.out.size)
    clear HX HB hb
    have HX := Lib.hid hx; clear hx
    have HB := Lib.hid hb2; clear hb2
    go_wp2_with fail
    clear c0 c1 c2 c3 c4 c5 c6 c7
    go_at_call 10
    have hd := do_any ⟨16, 1, 0, 0, 9⟩ ⟨a, b, c, 1, r4, rs, rp, rp⟩ 0 _ (HS.out.below HB.out).forms K11.out
    rw [show doP ⟨16, 1, 0, 0, 9⟩ ⟨a, b, c, 1, r4, rs, rp, rp⟩ 0 = ⟨2, 1, 0, 0, 0⟩ from (go_lt 16 (by omega) 1 0 (by omega) (by omega) _).trans (by simp [goesP, L8.get]; omega)] at hd
    simp only [Ef.value, In.val, L8.val] at hd
    refine (show Calls Tryd.prog 10 _ _ _ from hd).mono ?_
    rintro e w21 ⟨rfl, hb⟩
    clear hd
    have hx := HX.out.below hb
    have c0 := hx.cell (i := 0) rfl
    have c1 := hx.cell (i := 1) rfl
    have c2 := hx.cell (i := 2) rfl
    have c3 := hx.cell (i := 3) rfl
    have c4 := hx.cell (i := 4) rfl
    have c5 := hx.cell (i := 5) rfl
    have c6 := hx.cell (i := 6) rfl
    have c7 := hx.cell (i := 7) rfl
    have hb2 := HB.out.trans (hb.mono HB.out.size)
    clear HX HB hb
    have HX := Lib.hid hx; clear hx
    have HB := Lib.hid hb2; clear hb2
    go_wp2_with fail
    clear c0 c1 c2 c3 c4 c5 c6 c7
    go_at_call 10
    have hd := do_any ⟨14, 0, 1, 0, 9⟩ ⟨a, b, c, 1, r4, rs, rp, rp⟩ 0 _ (HS.out.below HB.out).forms K11.out
    rw [show doP ⟨14, 0, 1, 0, 9⟩ ⟨a, b, c, 1, r4, rs, rp, rp⟩ 0 = ⟨2, 1, 0, 0, 0⟩ from (go_lt 14 (by omega) 0 1 (by omega) (by omega) _).trans (by simp [goesP, L8.get]; omega)] at hd
    simp only [Ef.value, In.val, L8.val] at hd
    refine (show Calls Tryd.prog 10 _ _ _ from hd).mono ?_
    rintro e w22 ⟨rfl, hb⟩
    clear hd
    have hx := HX.out.below hb
    have c0 := hx.cell (i := 0) rfl
    have c1 := hx.cell (i := 1) rfl
    have c2 := hx.cell (i := 2) rfl
    have c3 := hx.cell (i := 3) rfl
    have c4 := hx.cell (i := 4) rfl
    have c5 := hx.cell (i := 5) rfl
    have c6 := hx.cell (i := 6) rfl
    have c7 := hx.cell (i := 7) rfl
    have hb2 := HB.out.trans (hb.mono HB.out.size)
    clear HX HB hb
    have HX := Lib.hid hx; clear hx
    have HB := Lib.hid hb2; clear hb2
    go_wp2_with fail
    clear c0 c1 c2 c3 c4 c5 c6 c7
    go_at_call 10
    have hd := do_any ⟨15, 0, 1, 0, 9⟩ ⟨a, b, c, 1, r4, rs, rp, rp⟩ 0 _ (HS.out.below HB.out).forms K11.out
    rw [show doP ⟨15, 0, 1, 0, 9⟩ ⟨a, b, c, 1, r4, rs, rp, rp⟩ 0 = ⟨2, 9, 0, 0, 0⟩ from (go_lt 15 (by omega) 0 1 (by omega) (by omega) _).trans (by simp [goesP, L8.get]; omega)] at hd
    simp only [Ef.value, In.val, L8.val] at hd
    refine (show Calls Tryd.prog 10 _ _ _ from hd).mono ?_
    rintro e w23 ⟨rfl, hb⟩
    clear hd
    have hx := HX.out.below hb
    have c0 := hx.cell (i := 0) rfl
    have c1 := hx.cell (i := 1) rfl
    have c2 := hx.cell (i := 2) rfl
    have c3 := hx.cell (i := 3) rfl
    have c4 := hx.cell (i := 4) rfl
    have c5 := hx.cell (i := 5) rfl
    have c6 := hx.cell (i := 6) rfl
    have c7 := hx.cell (i := 7) rfl
    have hb2 := HB.out.trans (hb.mono HB.out.size)
    clear HX HB hb
    have HX := Lib.hid hx; clear hx
    have HB := Lib.hid hb2; clear hb2
    go_wp2
    refine bodyPost_ret (results_tmp rfl _ _ _) rfl ⟨?_, HB.out⟩
    simp; omega
  · subst hab
    have l1 : ¬ a < a := by omega
    go_at_call 10
    have hd := do_any ⟨16, 0, 1, 0, 9⟩ ⟨a, a, c, 1, r4, rs, rp, rp⟩ 0 _ (HS.out.below HB.out).forms K11.out
    rw [show doP ⟨16, 0, 1, 0, 9⟩ ⟨a, a, c, 1, r4, rs, rp, rp⟩ 0 = ⟨2, 1, 0, 0, 0⟩ from (go_lt 16 (by omega) 0 1 (by omega) (by omega) _).trans (by simp [goesP, L8.get])] at hd
    simp only [Ef.value, In.val, L8.val] at hd
    refine (show Calls Tryd.prog 10 _ _ _ from hd).mono ?_
    rintro e w20 ⟨rfl, hb⟩
    clear hd
    have hx := HX.out.below hb
    have c0 := hx.cell (i := 0) rfl
    have c1 := hx.cell (i := 1) rfl
    have c2 := hx.cell (i := 2) rfl
    have c3 := hx.cell (i := 3) rfl
    have c4 := hx.cell (i := 4) rfl
    have c5 := hx.cell (i := 5) rfl
    have c6 := hx.cell (i := 6) rfl
    have c7 := hx.cell (i := 7) rfl
    have hb2 := HB.out.trans (hb.mono HB.out.size)
    clear HX HB hb
    have HX := Lib.hid hx; clear hx
    have HB := Lib.hid hb2; clear hb2
    go_wp2_with fail
    clear c0 c1 c2 c3 c4 c5 c6 c7
    go_at_call 10
    have hd := do_any ⟨16, 1, 0, 0, 9⟩ ⟨a, a, c, 1, r4, rs, rp, rp⟩ 0 _ (HS.out.below HB.out).forms K11.out
    rw [show doP ⟨16, 1, 0, 0, 9⟩ ⟨a, a, c, 1, r4, rs, rp, rp⟩ 0 = ⟨2, 1, 0, 0, 0⟩ from (go_lt 16 (by omega) 1 0 (by omega) (by omega) _).trans (by simp [goesP, L8.get])] at hd
    simp only [Ef.value, In.val, L8.val] at hd
    refine (show Calls Tryd.prog 10 _ _ _ from hd).mono ?_
    rintro e w21 ⟨rfl, hb⟩
    clear hd
    have hx := HX.out.below hb
    have c0 := hx.cell (i := 0) rfl
    have c1 := hx.cell (i := 1) rfl
    have c2 := hx.cell (i := 2) rfl
    have c3 := hx.cell (i := 3) rfl
    have c4 := hx.cell (i := 4) rfl
    have c5 := hx.cell (i := 5) rfl
    have c6 := hx.cell (i := 6) rfl
    have c7 := hx.cell (i := 7) rfl
    have hb2 := HB.out.trans (hb.mono HB.out.size)
    clear HX HB hb
    have HX := Lib.hid hx; clear hx
    have HB := Lib.hid hb2; clear hb2
    go_wp2_with fail
    clear c0 c1 c2 c3 c4 c5 c6 c7
    go_at_call 10
    have hd := do_any ⟨14, 0, 1, 0, 9⟩ ⟨a, a, c, 1, r4, rs, rp, rp⟩ 0 _ (HS.out.below HB.out).forms K11.out
    rw [show doP ⟨14, 0, 1, 0, 9⟩ ⟨a, a, c, 1, r4, rs, rp, rp⟩ 0 = ⟨2, 9, 0, 0, 0⟩ from (go_lt 14 (by omega) 0 1 (by omega) (by omega) _).trans (by simp [goesP, L8.get])] at hd
    simp only [Ef.value, In.val, L8.val] at hd
    refine (show Calls Tryd.prog 10 _ _ _ from hd).mono ?_
    rintro e w22 ⟨rfl, hb⟩
    clear hd
    have hx := HX.out.below hb
    have c0 := hx.cell (i := 0) rfl
    have c1 := hx.cell (i := 1) rfl
    have c2 := hx.cell (i := 2) rfl
    have c3 := hx.cell (i := 3) rfl
    have c4 := hx.cell (i := 4) rfl
    have c5 := hx.cell (i := 5) rfl
    have c6 := hx.cell (i := 6) rfl
    have c7 := hx.cell (i := 7) rfl
    have hb2 := HB.out.trans (hb.mono HB.out.size)
    clear HX HB hb
    have HX := Lib.hid hx; clear hx
    have HB := Lib.hid hb2; clear hb2
    go_wp2_with fail
    clear c0 c1 c2 c3 c4 c5 c6 c7
    go_at_call 10
    have hd := do_any ⟨15, 0, 1, 0, 9⟩ ⟨a, a, c, 1, r4, rs, rp, rp⟩ 0 _ (HS.out.below HB.out).forms K11.out
    rw [show doP ⟨15, 0, 1, 0, 9⟩ ⟨a, a, c, 1, r4, rs, rp, rp⟩ 0 = ⟨2, 1, 0, 0, 0⟩ from (go_lt 15 (by omega) 0 1 (by omega) (by omega) _).trans (by simp [goesP, L8.get])] at hd
    simp only [Ef.value, In.val, L8.val] at hd
    refine (show Calls Tryd.prog 10 _ _ _ from hd).mono ?_
    rintro e w23 ⟨rfl, hb⟩
    clear hd
    have hx := HX.out.below hb
    have c0 := hx.cell (i := 0) rfl
    have c1 := hx.cell (i := 1) rfl
    have c2 := hx.cell (i := 2) rfl
    have c3 := hx.cell (i := 3) rfl
    have c4 := hx.cell (i := 4) rfl
    have c5 := hx.cell (i := 5) rfl
    have c6 := hx.cell (i := 6) rfl
    have c7 := hx.cell (i := 7) rfl
    have hb2 := HB.out.trans (hb.mono HB.out.size)
    clear HX HB hb
    have HX := Lib.hid hx; clear hx
    have HB := Lib.hid hb2; clear hb2
    go_wp2
    refine bodyPost_ret (results_tmp rfl _ _ _) rfl ⟨?_, HB.out⟩
    simp
  · have l1 : ¬ a < b := by omega
    have l2 : b < a := hab
    have l3 : (a == b) = false := by rw [beq_eq_false_iff_ne]; omega
    go_at_call 10
    have hd := do_any ⟨16, 0, 1, 0, 9⟩ ⟨a, b, c, 1, r4, rs, rp, rp⟩ 0 _ (HS.out.below HB.out).forms K11.out
    rw [show doP ⟨16, 0, 1, 0, 9⟩ ⟨a, b, c, 1, r4, rs, rp, rp⟩ 0 = ⟨2, 1, 0, 0, 0⟩ from (go_lt 16 (by omega) 0 1 (by omega) (by omega) _).trans (by simp [goesP, L8.get]; omega)] at hd
    simp only [Ef.value, In.val, L8.val] at hd
    refine (show Calls Tryd.prog 10 _ _ _ from hd).mono ?_
    rintro e w20 ⟨rfl, hb⟩
    clear hd
    have hx := HX.out.below hb
    have c0 := hx.cell (i := 0) rfl
    have c1 := hx.cell (i := 1) rfl
    have c2 := hx.cell (i := 2) rfl
    have c3 := hx.cell (i := 3) rfl
    have c4 := hx.cell (i := 4) rfl
    have c5 := hx.cell (i := 5) rfl
    have c6 := hx.cell (i := 6) rfl
    have c7 := hx.cell (i := 7) rfl
    have hb2 := HB.out.trans (hb.mono HB.out.size)
    clear HX HB hb
    have HX := Lib.hid hx; clear hx
    have HB := Lib.hid hb2; clear hb2
    go_wp2_with fail
    clear c0 c1 c2 c3 c4 c5 c6 c7
    go_at_call 10
    have hd := do_any ⟨16, 1, 0, 0, 9⟩ ⟨a, b, c, 1, r4, rs, rp, rp⟩ 0 _ (HS.out.below HB.out).forms K11.out
    rw [show doP ⟨16, 1, 0, 0, 9⟩ ⟨a, b, c, 1, r4, rs, rp, rp⟩ 0 = ⟨2, 9, 0, 0, 0⟩ from (go_lt 16 (by omega) 1 0 (by omega) (by omega) _).trans (by simp [goesP, L8.get]; omega)] at hd
    simp only [Ef.value, In.val, L8.val] at hd
    refine (show Calls Tryd.prog 10 _ _ _ from hd).mono ?_
    rintro e w21 ⟨rfl, hb⟩
    clear hd
    have hx := HX.out.below hb
    have c0 := hx.cell (i := 0) rfl
    have c1 := hx.cell (i := 1) rfl
    have c2 := hx.cell (i := 2) rfl
    have c3 := hx.cell (i := 3) rfl
    have c4 := hx.cell (i := 4) rfl
    have c5 := hx.cell (i := 5) rfl
    have c6 := hx.cell (i := 6) rfl
    have c7 := hx.cell (i := 7) rfl
    have hb2 := HB.out.trans (hb.mono HB.out.size)
    clear HX HB hb
    have HX := Lib.hid hx; clear hx
    have HB := Lib.hid hb2; clear hb2
    go_wp2_with fail
    clear c0 c1 c2 c3 c4 c5 c6 c7
    go_at_call 10
    have hd := do_any ⟨14, 0, 1, 0, 9⟩ ⟨a, b, c, 1, r4, rs, rp, rp⟩ 0 _ (HS.out.below HB.out).forms K11.out
    rw [show doP ⟨14, 0, 1, 0, 9⟩ ⟨a, b, c, 1, r4, rs, rp, rp⟩ 0 = ⟨2, 1, 0, 0, 0⟩ from (go_lt 14 (by omega) 0 1 (by omega) (by omega) _).trans (by simp [goesP, L8.get]; omega)] at hd
    simp only [Ef.value, In.val, L8.val] at hd
    refine (show Calls Tryd.prog 10 _ _ _ from hd).mono ?_
    rintro e w22 ⟨rfl, hb⟩
    clear hd
    have hx := HX.out.below hb
    have c0 := hx.cell (i := 0) rfl
    have c1 := hx.cell (i := 1) rfl
    have c2 := hx.cell (i := 2) rfl
    have c3 := hx.cell (i := 3) rfl
    have c4 := hx.cell (i := 4) rfl
    have c5 := hx.cell (i := 5) rfl
    have c6 := hx.cell (i := 6) rfl
    have c7 := hx.cell (i := 7) rfl
    have hb2 := HB.out.trans (hb.mono HB.out.size)
    clear HX HB hb
    have HX := Lib.hid hx; clear hx
    have HB := Lib.hid hb2; clear hb2
    go_wp2_with fail
    clear c0 c1 c2 c3 c4 c5 c6 c7
    go_at_call 10
    have hd := do_any ⟨15, 0, 1, 0, 9⟩ ⟨a, b, c, 1, r4, rs, rp, rp⟩ 0 _ (HS.out.below HB.out).forms K11.out
    rw [show doP ⟨15, 0, 1, 0, 9⟩ ⟨a, b, c, 1, r4, rs, rp, rp⟩ 0 = ⟨2, 9, 0, 0, 0⟩ from (go_lt 15 (by omega) 0 1 (by omega) (by omega) _).trans (by simp [goesP, L8.get]; omega)] at hd
    simp only [Ef.value, In.val, L8.val] at hd
    refine (show Calls Tryd.prog 10 _ _ _ from hd).mono ?_
    rintro e w23 ⟨rfl, hb⟩
    clear hd
    have hx := HX.out.below hb
    have c0 := hx.cell (i := 0) rfl
    have c1 := hx.cell (i := 1) rfl
    have c2 := hx.cell (i := 2) rfl
    have c3 := hx.cell (i := 3) rfl
    have c4 := hx.cell (i := 4) rfl
    have c5 := hx.cell (i := 5) rfl
    have c6 := hx.cell (i := 6) rfl
    have c7 := hx.cell (i := 7) rfl
    have hb2 := HB.out.trans (hb.mono HB.out.size)
    clear HX HB hb
    have HX := Lib.hid hx; clear hx
    have HB := Lib.hid hb2; clear hb2
    go_wp2
    refine bodyPost_ret (results_tmp rfl _ _ _) rfl ⟨?_, HB.out⟩
    simp; omega

end Go.Proofs.YtpjgiecljjfdiaaDoor
