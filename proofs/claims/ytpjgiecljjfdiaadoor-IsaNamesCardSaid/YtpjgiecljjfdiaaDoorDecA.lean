/- Bytes as instructions: the plain function; get. Conditions: those stated in each theorem. -/
import Derived.Test.YtpjgiecljjfdiaaDoorIsaP
import Derived.Test.YtpjgiecljjfdiaaDoorOwn0
import Derived.Test.YtpjgiecljjfdiaaDoorCame
import Derived.Lib.EndianBits
import Derived.StillTailTactics
namespace Go.Proofs.YtpjgiecljjfdiaaDoor
open Go.RowKit Go.BigFrame

def immP (m : Int) : Int := if 2147483648 ≤ m then m - 4294967296 else m
/-- The instruction of eight bytes. -/
def getB (b0 b1 b2 b3 b4 b5 b6 b7 : UInt8) : In := ⟨b0.toNat, b1.toNat, b2.toNat, b3.toNat, immP ((b4.toNat : Int) * 16777216 + (b5.toNat : Int) * 65536 + (b6.toNat : Int) * 256 + (b7.toNat : Int))⟩
def decAll : List UInt8 → List In
  | b0 :: b1 :: b2 :: b3 :: b4 :: b5 :: b6 :: b7 :: r => getB b0 b1 b2 b3 b4 b5 b6 b7 :: decAll r
  | _ => []
def decP (b : List UInt8) : List In := (decAll b).take 1024

theorem or_sum (a b c d : Int) (ha : 0 ≤ a ∧ a < 256) (hb : 0 ≤ b ∧ b < 256) (hc : 0 ≤ c ∧ c < 256) (hd : 0 ≤ d ∧ d < 256) :
    Go.bits .or .u32 (Go.bits .or .u32 (Go.bits .or .u32 (a * 16777216) (b * 65536)) (c * 256)) d = a * 16777216 + b * 65536 + c * 256 + d := by
  have e1 := bits_join .u32 32 (by decide) wraps_u32 24 (a * 16777216) (b * 65536) (by omega) (by omega) (by omega) (by omega) (by omega) (by omega)
  rw [e1]
  have e2 := bits_join .u32 32 (by decide) wraps_u32 16 (a * 16777216 + b * 65536) (c * 256) (by omega) (by omega) (by omega) (by omega) (by omega) (by omega)
  rw [e2]
  exact bits_join .u32 32 (by decide) wraps_u32 8 (a * 16777216 + b * 65536 + c * 256) d (by omega) (by omega) (by omega) (by omega) (by omega) (by omega)
theorem imm_wrap (m : Int) (h0 : 0 ≤ m) (h1 : m < 4294967296) : IntKind.i32.wrap m = immP m := by
  rw [IntKind.wrap_i32]; unfold immP; split <;> omega

set_option maxRecDepth 100000 in
set_option maxHeartbeats 2000000 in
theorem get_any (q c n cap : Nat) (b0 b1 b2 b3 b4 b5 b6 b7 : UInt8) (w : World) (hn : 8 ≤ n) (hr : w.rangeAt q c [.int .u8 b0.toNat, .int .u8 b1.toNat, .int .u8 b2.toNat, .int .u8 b3.toNat, .int .u8 b4.toNat, .int .u8 b5.toNat, .int .u8 b6.toNat, .int .u8 b7.toNat]) (hq : q < w.heap.size) :
    Calls Tryd.prog 53 #[.slice (some ⟨q, c, none⟩) n cap] w fun e w' => e = .returned (getB b0 b1 b2 b3 b4 b5 b6 b7).val ∧ Below w.heap.size w w' := by
  have hbw : Below w.heap.size w (w.alloc (.cells In.zero.cells.toArray 23)) := (Below.refl _ w).alloc (Nat.le_refl _) _
  have hbx : Holds (w.alloc (.cells In.zero.cells.toArray 23)) w.heap.size 23 In.zero.cells := Holds.new w _ _
  have hrr : ∀ q', ((w.alloc (.cells In.zero.cells.toArray 23)).drewN q').rangeAt q c [.int .u8 b0.toNat, .int .u8 b1.toNat, .int .u8 b2.toNat, .int .u8 b3.toNat, .int .u8 b4.toNat, .int .u8 b5.toNat, .int .u8 b6.toNat, .int .u8 b7.toNat] := fun q' i v hi => by
    rw [← hr i v hi]; exact World.cell?_of_block (a := ⟨q, c + i, none⟩) (hbw.block q hq)
  have g : ∀ b : UInt8, (0 : Int) ≤ (b.toNat : Int) ∧ (b.toNat : Int) < 256 := fun b => ⟨by omega, by have := b.toNat_lt; omega⟩
  have h4 := g b4
  have h5 := g b5
  have h6 := g b6
  have h7 := g b7
  have h0 := g b0
  have h1 := g b1
  have h2 := g b2
  have h3 := g b3
  unfold getB
  generalize (b0.toNat : Int) = z0 at *
  generalize (b1.toNat : Int) = z1 at *
  generalize (b2.toNat : Int) = z2 at *
  generalize (b3.toNat : Int) = z3 at *
  generalize (b4.toNat : Int) = z4 at *
  generalize (b5.toNat : Int) = z5 at *
  generalize (b6.toNat : Int) = z6 at *
  generalize (b7.toNat : Int) = z7 at *
  have c0 : ∀ q', ((w.alloc (.cells In.zero.cells.toArray 23)).drewN q').cell? ⟨q, c, none⟩ = some (.int .u8 z0) := fun q' => hrr q' 0 _ rfl
  have c1 := fun q' => hrr q' 1 _ rfl
  have c2 := fun q' => hrr q' 2 _ rfl
  have c3 := fun q' => hrr q' 3 _ rfl
  have c4 := fun q' => hrr q' 4 _ rfl
  have c5 := fun q' => hrr q' 5 _ rfl
  have c6 := fun q' => hrr q' 6 _ rfl
  have c7 := fun q' => hrr q' 7 _ rfl
  clear hrr hr g
  have hn8 : (8 : Int) ≤ n := by omega
  have e4 : IntKind.u32.wrap (z4 * 2 ^ 24) = z4 * 16777216 := by rw [IntKind.wrap_u32]; omega
  have e5 : IntKind.u32.wrap (z5 * 2 ^ 16) = z5 * 65536 := by rw [IntKind.wrap_u32]; omega
  have e6 : IntKind.u32.wrap (z6 * 2 ^ 8) = z6 * 256 := by rw [IntKind.wrap_u32]; omega
  have es := or_sum z4 z5 z6 z7 h4 h5 h6 h7
  have Hes := Lib.hid es; clear es
  have Hbw := Lib.hid hbw; clear hbw
  have Hbx := Lib.hid hbx; clear hbx
  simp only [In.zero, In.cells] at c0 c1 c2 c3 c4 c5 c6 c7
  go_enter Tryd.func53, Tryd.ntmps53
  go_wp2_with fail
  go_quiet (fail)
  rw [Hes.out]
  have hm : 0 ≤ z4 * 16777216 + z5 * 65536 + z6 * 256 + z7 ∧ z4 * 16777216 + z5 * 65536 + z6 * 256 + z7 < 4294967296 := by omega
  obtain ⟨m, hme⟩ : ∃ m, m = z4 * 16777216 + z5 * 65536 + z6 * 256 + z7 := ⟨_, rfl⟩
  rw [← hme] at hm ⊢
  have HM := Lib.hid hme; clear hme
  have hiw := imm_wrap m hm.1 hm.2
  have d0 := c0 nq
  have d1 := c1 nq
  have d2 := c2 nq
  have d3 := c3 nq
  have Hb2 := Lib.hid (below_drewN Hbw.out nq)
  have Hx2 := Lib.hid (Hbx.out.drewN nq)
  clear c0 c1 c2 c3 c4 c5 c6 c7 Hes e4 e5 e6 h4 h5 h6 h7
  simp only [In.zero, In.cells] at Hb2 Hx2
  generalize (w.alloc (.cells #[.int .i64 0, .int .i64 0, .int .i64 0, .int .i64 0, .int .i64 0] 23)).drewN nq = W1 at *
  have Hth := Lib.hid (Hx2.out.drew.there (o := 0) (n := 5) (Nat.le_refl _))
  have hi0 : -2147483648 ≤ immP m ∧ immP m < 2147483648 := by unfold immP; split <;> omega
  have w0 : IntKind.i64.wrap z0 = z0 := by rw [IntKind.wrap_i64]; omega
  have w1 : IntKind.i64.wrap z1 = z1 := by rw [IntKind.wrap_i64]; omega
  have w2 : IntKind.i64.wrap z2 = z2 := by rw [IntKind.wrap_i64]; omega
  have w3 : IntKind.i64.wrap z3 = z3 := by rw [IntKind.wrap_i64]; omega
  have w4 : IntKind.i64.wrap (immP m) = immP m := by rw [IntKind.wrap_i64]; omega
  have k0 : (0 : Int) < n ∧ (1 : Int) < n ∧ (2 : Int) < n ∧ (3 : Int) < n := by omega
  obtain ⟨k0, k1, k2, k3⟩ := k0
  have n0 : 0 < n ∧ 1 < n ∧ 2 < n ∧ 3 < n := by omega
  obtain ⟨n0, n1, n2, n3⟩ := n0
  have Hx3 := Lib.hid (Hx2.out.drew)
  have Hb3 := Lib.hid (below_drew1 Hb2.out)
  go_wp2_with fail
  go_still_tail 20, (by kernel_rfl)
  change wpList _ _ _ _ _ W1.drew
  clear d0 d1 d2 d3
  generalize W1.drew = W2 at *
  go_wp2_with (refine wpList_store_mid rfl 23 (.tmp 2) (.tmp 45) rfl w.heap.size 0 #[.int .i64 z0, .int .i64 z1, .int .i64 z2, .int .i64 z3, .int .i64 (immP m)] rfl rfl ?_ (by kernel_rfl) (by simp [Value.oneCell']) ?_; exact Hth.out; change wpList _ _ _ _ _ (W2.setCells w.heap.size 0 [.int .i64 z0, .int .i64 z1, .int .i64 z2, .int .i64 z3, .int .i64 (immP m)]))
  have hf : Holds (W2.setCells w.heap.size 0 [.int .i64 z0, .int .i64 z1, .int .i64 z2, .int .i64 z3, .int .i64 (immP m)]) w.heap.size 23 [.int .i64 z0, .int .i64 z1, .int .i64 z2, .int .i64 z3, .int .i64 (immP m)] := Hx3.out.sets [.int .i64 z0, .int .i64 z1, .int .i64 z2, .int .i64 z3, .int .i64 (immP m)] 0
  exact bodyPost_ret (results_c rfl rfl (run_loadVar_mid _ _ 0 23 [.int .i64 z0, .int .i64 z1, .int .i64 z2, .int .i64 z3, .int .i64 (immP m)] _ hf.full Tryd.underlying23 rfl (by kernel_rfl))) rfl ⟨by rw [← HM.out]; rfl, below_cells (Nat.le_refl _) _ _ _ Hb3.out⟩

end Go.Proofs.YtpjgiecljjfdiaaDoor
