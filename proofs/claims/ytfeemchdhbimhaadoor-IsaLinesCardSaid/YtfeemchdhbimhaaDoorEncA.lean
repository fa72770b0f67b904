/- Instructions as bytes: the plain functions; fits, put. Conditions: those stated in each theorem. -/
import Derived.Test.YtfeemchdhbimhaaDoorIsaP
import Derived.Test.YtfeemchdhbimhaaDoorOwn0
import Derived.Test.YtfeemchdhbimhaaDoorCame
import Derived.Maps.AppendAt
import Derived.Laws.MakeOwn
import Derived.Lib.IndexBytes
namespace Go.Proofs.YtfeemchdhbimhaaDoor
open Go.RowKit Go.BigFrame

/-- The byte of a number. -/
def byP (z : Int) : UInt8 := UInt8.ofNat (z % 256).toNat
theorem wrap_u8 (z : Int) : IntKind.u8.wrap z = ((byP z).toNat : Int) := by
  rw [IntKind.wrap_u8]; unfold byP
  have : (z % 256).toNat < 256 := by omega
  have h : (UInt8.ofNat (z % 256).toNat).toNat = (z % 256).toNat := by rw [UInt8.toNat_ofNat']; omega
  rw [h]; omega
theorem u8_val (z : Int) : ((byP z).toNat : Int) = z % 256 := by rw [← wrap_u8, IntKind.wrap_u8]
def putP (i : In) : List UInt8 :=
  let m := i.imm % 4294967296
  [byP i.op, byP i.a, byP i.b, byP i.c, byP (m / 16777216), byP (m / 65536), byP (m / 256), byP m]
def byteR (z : Int) : Bool := decide (0 ≤ z) && decide (z ≤ 255)
def immR (z : Int) : Bool := decide (-2147483648 ≤ z) && decide (z ≤ 2147483647)
def fitsP (i : In) : Bool := byteR i.op && byteR i.a && byteR i.b && byteR i.c && immR i.imm
theorem putP_len (i : In) : (putP i).length = 8 := rfl
def encP (l : List In) : Option (List UInt8) := if l.length ≤ 1024 ∧ l.all fitsP = true then some (l.flatMap putP) else none

theorem info_parts (t : TypeId) (k b : Nat) (h : (Tryd.prog.info? t).map (fun i => (i.zero.map (·.cells.size), i.size, i.bytes)) = some (some k, k, b)) : ∃ (i : TypeInfo) (z : Value), Tryd.prog.info? t = some i ∧ i.zero = some z ∧ i.size = k ∧ i.bytes = b ∧ z.cells.size = k := by
  cases hi : Tryd.prog.info? t with
  | none => rw [hi] at h; cases h
  | some i =>
    rw [hi] at h
    simp only [Option.map_some, Option.some.injEq, Prod.mk.injEq] at h
    obtain ⟨h1, h2, h3⟩ := h
    cases hz : i.zero with
    | none => rw [hz] at h1; cases h1
    | some z => rw [hz] at h1; simp at h1; exact ⟨i, z, rfl, hz, h2, h3, h1⟩
theorem info8 : ∃ (i : TypeInfo) (z : Value), Tryd.prog.info? 5 = some i ∧ i.zero = some z ∧ i.size = 1 ∧ i.bytes = 1 ∧ z.cells.size = 1 := info_parts _ 1 1 (by kernel_rfl)

set_option maxRecDepth 100000 in
set_option maxHeartbeats 1000000 in
theorem fits_any (i : In) (w : World) : Calls Tryd.prog 42 #[i.val] w fun e w' => e = .returned (.bool (fitsP i)) ∧ Below w.heap.size w w' := by
  have hbw : Below w.heap.size w (w.alloc (.cells i.cells.toArray 23)) := (Below.refl _ w).alloc (Nat.le_refl _) _
  have Hbw := Lib.hid hbw; clear hbw
  obtain ⟨op, a, b, c, imm⟩ := i
  go_enter Tryd.func42, Tryd.ntmps42
  unfold In.val
  have ix0 : ∀ w, (Instr.index 97 (.agg #[.int .i64 op, .int .i64 a, .int .i64 b, .int .i64 c]) (.int .i64 0)).run Tryd.prog w = .ok (.int .i64 op) w := fun w => by kernel_rfl
  have ix1 : ∀ w, (Instr.index 97 (.agg #[.int .i64 op, .int .i64 a, .int .i64 b, .int .i64 c]) (.int .i64 1)).run Tryd.prog w = .ok (.int .i64 a) w := fun w => by kernel_rfl
  have ix2 : ∀ w, (Instr.index 97 (.agg #[.int .i64 op, .int .i64 a, .int .i64 b, .int .i64 c]) (.int .i64 2)).run Tryd.prog w = .ok (.int .i64 b) w := fun w => by kernel_rfl
  have ix3 : ∀ w, (Instr.index 97 (.agg #[.int .i64 op, .int .i64 a, .int .i64 b, .int .i64 c]) (.int .i64 3)).run Tryd.prog w = .ok (.int .i64 c) w := fun w => by kernel_rfl
  go_wp2_with fail
  go_loopw [14] (fun i wr => ∃ k : Nat, k ≤ 4 ∧ i = .int .i64 k ∧ (∀ j, j < k → byteR ((In.mk op a b c imm).get j) = true) ∧ wr = w.alloc (.cells #[.int .i64 op, .int .i64 a, .int .i64 b, .int .i64 c, .int .i64 imm] 23))
    (fun i _ => 4 - (intOf i).toNat)
  case atStart => exact ⟨0, by omega, rfl, fun j h => by omega, rfl⟩
  case round =>
    obtain ⟨k, hk, rfl, hall, rfl⟩ := hrel
    have Hall := Lib.hid hall; clear hall
    rcases (by omega : k = 0 ∨ k = 1 ∨ k = 2 ∨ k = 3 ∨ k = 4) with rfl | rfl | rfl | rfl | rfl
    · have hz : ∀ h : ¬ (0 ≤ op ∧ op ≤ 255), byteR op = false := fun h => by simp [byteR]; omega
      by_cases h0 : 0 ≤ op
      · by_cases h1 : op ≤ 255
        · clear hz
          go_wp2
          go_roundw
          case rel => exact ⟨1, by omega, rfl, fun j h => (by
            by_cases hj : j < 0
            · exact Hall.out j hj
            · have e : j = 0 := by omega
              subst e; simp [byteR, In.get, h0, h1]), trivial⟩
          case measure => simp [intOf]
        · have HZ := Lib.hid (hz (fun h => h1 h.2)); clear hz
          go_wp2
          have hf : fitsP ⟨op, a, b, c, imm⟩ = false := by simp [fitsP, HZ.out]
          refine bodyPost_ret (results_tmp rfl _ _ _) rfl ⟨by rw [hf]; rfl, Hbw.out⟩
      · have HZ := Lib.hid (hz (fun h => h0 h.1)); clear hz
        go_wp2
        have hf : fitsP ⟨op, a, b, c, imm⟩ = false := by simp [fitsP, HZ.out]
        refine bodyPost_ret (results_tmp rfl _ _ _) rfl ⟨by rw [hf]; rfl, Hbw.out⟩
    · have hz : ∀ h : ¬ (0 ≤ a ∧ a ≤ 255), byteR a = false := fun h => by simp [byteR]; omega
      by_cases h0 : 0 ≤ a
      · by_cases h1 : a ≤ 255
        · clear hz
          go_wp2
          go_roundw
          case rel => exact ⟨2, by omega, rfl, fun j h => (by
            by_cases hj : j < 1
            · exact Hall.out j hj
            · have e : j = 1 := by omega
              subst e; simp [byteR, In.get, h0, h1]), trivial⟩
          case measure => simp [intOf]
        · have HZ := Lib.hid (hz (fun h => h1 h.2)); clear hz
          go_wp2
          have hf : fitsP ⟨op, a, b, c, imm⟩ = false := by simp [fitsP, HZ.out]
          refine bodyPost_ret (results_tmp rfl _ _ _) rfl ⟨by rw [hf]; rfl, Hbw.out⟩
      · have HZ := Lib.hid (hz (fun h => h0 h.1)); clear hz
        go_wp2
        have hf : fitsP ⟨op, a, b, c, imm⟩ = false := by simp [fitsP, HZ.out]
        refine bodyPost_ret (results_tmp rfl _ _ _) rfl ⟨by rw [hf]; rfl, Hbw.out⟩
    · have hz : ∀ h : ¬ (0 ≤ b ∧ b ≤ 255), byteR b = false := fun h => by simp [byteR]; omega
      by_cases h0 : 0 ≤ b
      · by_cases h1 : b ≤ 255
        · clear hz
          go_wp2
          go_roundw
          case rel => exact ⟨3, by omega, rfl, fun j h => (by
            by_cases hj : j < 2
            · exact Hall.out j hj
            · have e : j = 2 := by omega
              subst e; simp [byteR, In.get, h0, h1]), trivial⟩
          case measure => simp [intOf]
        · have HZ := Lib.hid (hz (fun h => h1 h.2)); clear hz
          go_wp2
          have hf : fitsP ⟨op, a, b, c, imm⟩ = false := by simp [fitsP, HZ.out]
          refine bodyPost_ret (results_tmp rfl _ _ _) rfl ⟨by rw [hf]; rfl, Hbw.out⟩
      · have HZ := Lib.hid (hz (fun h => h0 h.1)); clear hz
        go_wp2
        have hf : fitsP ⟨op, a, b, c, imm⟩ = false := by simp [fitsP, HZ.out]
        refine bodyPost_ret (results_tmp rfl _ _ _) rfl ⟨by rw [hf]; rfl, Hbw.out⟩
    · have hz : ∀ h : ¬ (0 ≤ c ∧ c ≤ 255), byteR c = false := fun h => by simp [byteR]; omega
      by_cases h0 : 0 ≤ c
      · by_cases h1 : c ≤ 255
        · clear hz
          go_wp2
          go_roundw
          case rel => exact ⟨4, by omega, rfl, fun j h => (by
            by_cases hj : j < 3
            · exact Hall.out j hj
            · have e : j = 3 := by omega
              subst e; simp [byteR, In.get, h0, h1]), trivial⟩
          case measure => simp [intOf]
        · have HZ := Lib.hid (hz (fun h => h1 h.2)); clear hz
          go_wp2
          have hf : fitsP ⟨op, a, b, c, imm⟩ = false := by simp [fitsP, HZ.out]
          refine bodyPost_ret (results_tmp rfl _ _ _) rfl ⟨by rw [hf]; rfl, Hbw.out⟩
      · have HZ := Lib.hid (hz (fun h => h0 h.1)); clear hz
        go_wp2
        have hf : fitsP ⟨op, a, b, c, imm⟩ = false := by simp [fitsP, HZ.out]
        refine bodyPost_ret (results_tmp rfl _ _ _) rfl ⟨by rw [hf]; rfl, Hbw.out⟩
    · have g0 := Hall.out 0 (by omega)
      have g1 := Hall.out 1 (by omega)
      have g2 := Hall.out 2 (by omega)
      have g3 := Hall.out 3 (by omega)
      simp only [In.get] at g0 g1 g2 g3
      have hf : fitsP ⟨op, a, b, c, imm⟩ = immR imm := by simp [fitsP, g0, g1, g2, g3]
      have Hf := Lib.hid hf
      clear hf g0 g1 g2 g3
      by_cases h0 : -2147483648 ≤ imm
      · go_wp2
        refine bodyPost_ret (results_tmp rfl _ _ _) rfl ⟨by rw [Hf.out]; simp [immR, h0], Hbw.out⟩
      · go_wp2
        refine bodyPost_ret (results_tmp rfl _ _ _) rfl ⟨by rw [Hf.out]; have : immR imm = false := by simp [immR]; omega
                                                            rw [this]; rfl, Hbw.out⟩

/-- Bytes, as cells. -/
def bcells (l : List UInt8) : List Value := Lib.byteCells l

set_option maxRecDepth 100000 in
set_option maxHeartbeats 1000000 in
/-- put: eight bytes more. -/
theorem put_any (i : In) (w : World) (base : Nat) (v : Value) (bs : List UInt8) (hown : w.ownsRow base 5 1 v bs.length (Lib.byteCells bs)) (hbase : base ≤ w.heap.size) (hlen : bs.length ≤ 1000000) :
    Calls Tryd.prog 43 #[v, i.val] w fun e w' => ∃ v', e = .returned v' ∧ w'.ownsRow base 5 1 v' (bs ++ putP i).length (Lib.byteCells (bs ++ putP i)) ∧ Below base w w' ∧ v' ≠ .slice none 0 0 := by
  obtain ⟨i0, z0, hi, hz0, hz1, hz2, hz3⟩ := info8
  have HI := Lib.hid hi; clear hi
  have HZ0 := Lib.hid hz0; clear hz0
  have HZ1 := Lib.hid hz1; clear hz1
  have HZ2 := Lib.hid hz2; clear hz2
  have HZ3 := Lib.hid hz3; clear hz3
  have Hown := Lib.hid hown; clear hown
  obtain ⟨op, a, b, c, imm⟩ := i
  have hm0 : 0 ≤ imm % 4294967296 ∧ imm % 4294967296 < 4294967296 := by omega
  have Hp : Hid (([.int .u8 (op % 256), .int .u8 (a % 256), .int .u8 (b % 256), .int .u8 (c % 256), .int .u8 (imm % 4294967296 / 16777216), .int .u8 (imm % 4294967296 / 65536 % 256), .int .u8 (imm % 4294967296 / 256 % 256), .int .u8 (imm % 256)] : List Value) = Lib.byteCells (putP ⟨op, a, b, c, imm⟩)) := Lib.hid (by
    simp only [Lib.byteCells, putP, List.map_cons, List.map_nil, u8_val, List.cons.injEq, Value.int.injEq, true_and, and_true]
    omega)
  go_enter Tryd.func43, Tryd.ntmps43
  unfold In.val
  go_wp2_with (at_builtin; refine wpList_append_own_at _ rfl _ _ 42 rfl base 5 i0 z0 1 1 Tryd.underlying42 HI.out HZ0.out HZ1.out HZ2.out HZ3.out (by decide) v bs.length (Lib.byteCells bs) rfl ((Hown.out.alloc _).alloc _) ⟨w.heap.size + 1, 0, none⟩ 8 8 [.int .u8 (op % 256), .int .u8 (a % 256), .int .u8 (b % 256), .int .u8 (c % 256), .int .u8 (imm % 4294967296 / 16777216), .int .u8 (imm % 4294967296 / 65536 % 256), .int .u8 (imm % 4294967296 / 256 % 256), .int .u8 (imm % 256)] rfl rfl (World.news_of_block (t := 5) (fr := (0, 0)) (newAt (w := w.alloc _) (by simp) 5 [.int .u8 (op % 256), .int .u8 (a % 256), .int .u8 (b % 256), .int .u8 (c % 256), .int .u8 (imm % 4294967296 / 16777216), .int .u8 (imm % 4294967296 / 65536 % 256), .int .u8 (imm % 4294967296 / 256 % 256), .int .u8 (imm % 256)])) (by simp [Value.oneCell']) (by unfold maxLen; omega) (by omega) (by simp; omega) ?_; intro v5 w5 hown5 hgrow5 hnil5 hat5; refine Hid.out ?_)
  refine Lib.hid ?_
  rw [Hp.out, ← Lib.byteCells_append] at hown5
  have hb5 : Below base w w5 := (((Below.refl base w).alloc hbase _).alloc (by simp; omega) _).grown hgrow5 (by simp; omega) (fun g hg => (owns_lt Hown.out hg).1)
  have hne : v5 ≠ .slice none 0 0 := fun e => by have := (hnil5.1 e).2; omega
  have Ho5 := Lib.hid hown5; clear hown5
  have Hb5 := Lib.hid hb5; clear hb5
  have Hn5 := Lib.hid hne; clear hne hgrow5 hnil5 hat5
  go_wp2
  refine bodyPost_ret (results_tmp rfl _ _ _) rfl ⟨v5, rfl, ?_, Hb5.out, Hn5.out⟩
  rw [List.length_append, putP_len]; exact Ho5.out

end Go.Proofs.YtfeemchdhbimhaaDoor
