/- Decode of any bytes. Conditions: those stated in each theorem. -/
import Derived.Test.YtpjgiecljjfdiaaDoorDecC
namespace Go.Proofs.YtpjgiecljjfdiaaDoor
open Go.RowKit Go.BigFrame Go.Shelf
attribute [local go_sem] Oper.semAt_some
attribute [local simp] wide_fn

set_option maxRecDepth 100000 in
set_option maxHeartbeats 2000000 in
theorem each1_few {a : Option Addr} {n cap Bc : Nat} (lp : Nat) (w : World) (h8 : n < 8) (Kp : World → World → Prop) (hB : w.cell? ⟨Bc, 0, none⟩ = some (.slice a n cap)) :
    SeqEach Fence.wide Tryd.prog 52 #[.pointer (some ⟨Bc, 0, none⟩)] encI Kp ([] : List In) w lp := by
  intro m J Jx W hW _ hJ hJx hY i0
  have cB : W.cell? ⟨Bc, 0, none⟩ = some (.slice a n cap) := (hW.cell (World.block_lt_of_cell? _ _ hB)).trans hB
  clear hB hW hJ hJx hY
  have hlt2 : (n : Int) < 8 := by omega
  refine callsIn_of_wp Tryd.func52 rfl trivial ?_ rfl
  simp only [Tryd.ntmps52, List.size_toArray, List.length_cons, List.length_nil, Nat.reduceAdd, Nat.reduceSub, Array.replicate_succ, Array.replicate_zero, List.push_toArray, List.append_toArray, List.nil_append, List.cons_append]
  gi_wp2
  clear cB
  gi_loopw [3] (fun i wr => i = .slice a n cap ∧ J [] wr) (fun _ _ => 0)
  case atStart => exact ⟨rfl, i0⟩
  case round =>
    obtain ⟨rfl, hJs⟩ := hrel
    gi_wp2
    go_end0
    exact ⟨⟨_, rfl⟩, .inl hJs⟩

def NoI (n0 : Nat) (W0 : World) (_ : List In) (W : World) : Prop := Tch (fun _ => False) W0 W ∧ Holds W n0 40 [.slice none 0 0]
def NoX (_ : Code) (_ : List In) (_ : World) : Prop := False
theorem noI_own {n0 : Nat} {W0 : World} : OwnFrom W0.heap.size (NoI n0 W0) := OwnFrom.and (ownFrom_tch (Nat.le_refl _)) (ownFrom_holds _ _ _ _)
theorem noX_own {B : Nat} (c : Code) : OwnFrom B (NoX c) := fun _ _ _ _ hs _ _ => hs

set_option maxRecDepth 100000 in
set_option maxHeartbeats 4000000 in
theorem decode_few_in {a : Option Addr} {n cap : Nat} (w : World) (h8 : n < 8) :
    CallsIn Fence.wide 9 Tryd.prog 19 #[.slice a n cap] w fun e w' => e = .returned (.slice none 0 0) ∧ Below w.heap.size w w' := by
  have hbl0 : Below w.heap.size w ((w.alloc (.cells #[.slice none 0 0] 40)).alloc (.cells #[.slice a n cap] 42)) := ((Below.refl _ w).alloc (Nat.le_refl _) _).alloc (by simp) _
  have hbx : Holds ((w.alloc (.cells #[.slice none 0 0] 40)).alloc (.cells #[.slice a n cap] 42)) w.heap.size 40 [.slice none 0 0] := (Holds.new w 40 [.slice none 0 0]).alloc _
  have hBc : ((w.alloc (.cells #[.slice none 0 0] 40)).alloc (.cells #[.slice a n cap] 42)).cell? ⟨w.heap.size + 1, 0, none⟩ = some (.slice a n cap) := (newAt (w := w.alloc _) (by simp) 42 [.slice a n cap]).cell (i := 0) rfl
  have hs0 : ((w.alloc (.cells #[.slice none 0 0] 40)).alloc (.cells #[.slice a n cap] 42)).heap.size = w.heap.size + 2 := by simp
  refine callsIn_of_wp_marks Tryd.func19 rfl trivial ?_ rfl
  simp only [Tryd.ntmps19, List.size_toArray, List.length_cons, List.length_nil, Nat.reduceAdd, Nat.reduceSub, Array.replicate_succ, Array.replicate_zero, List.push_toArray, List.append_toArray, List.nil_append, List.cons_append]
  have Hs0 := Lib.hid hs0; clear hs0
  have Hbl0 := Lib.hid hbl0; clear hbl0
  have HBc := Lib.hid hBc; clear hBc
  have Hbx := Lib.hid hbx; clear hbx
  gi_wp2_with (gi_at_call 41; refine (callsIn_wide.2 (each_any _ a n cap rfl _)).mono ?_; rintro e w2 ⟨rfl, rfl⟩)
  generalize (w.alloc (.cells #[.slice none 0 0] 40)).alloc (.cells #[.slice a n cap] 42) = W0 at *
  refine each_own rfl rfl (gf := 52) (lb := #[.pointer (some ⟨w.heap.size + 1, 0, none⟩)]) rfl trivial (enters_of Tryd.func52 (by kernel_rfl) rfl)
    (each1_few _ W0 h8 (KpC (fun k => W0.heap.size ≤ k)) HBc.out) kpC_t (kpC_b (by omega)) (fun _ => rfl)
    (NoI w.heap.size W0) NoX noI_own (fun c => noX_own c) ⟨Tch.refl _ _, Hbx.out⟩ ?round ?done ?stop
  case round =>
    rintro pre x rest W hx
    simp at hx
  case done =>
    rintro W ⟨hT, hv⟩ hK
    have hc3 := hv.cell (i := 0) rfl
    have hle : w.heap.size ≤ W0.heap.size := by have := Hs0.out; omega
    have hbel : Below w.heap.size w W := Hbl0.out.trans (hT.below hle (fun k h => h.elim))
    have Hbel := Lib.hid hbel; clear hbel
    have HK := Lib.hid hK; clear hK hT hv
    gi_wp2
    exact leaves_mark HK.out ⟨_, results_tmp rfl _ _ _, rfl, Hbel.out.trans (belowK_b (w := W0) hle W W0.heap.size _ _ (Nat.le_refl _) HK.out rfl rfl)⟩
  case stop =>
    rintro c pre W _ h _
    exact h.elim

theorem decAll_few {bs : List UInt8} (h : bs.length < 8) : decP bs = [] := by
  have h1 := decAll_len _ bs (Nat.le_refl _)
  have : decAll bs = [] := List.eq_nil_of_length_eq_zero (by omega)
  simp [decP, this]

/-- Decode: new memory, with the instructions. -/
theorem decode_any {a : Option Addr} {cap : Nat} {bs : List UInt8} (w : World) (hr : RowsIn w a 1 cell1 bs) (hcap : bs.length ≤ cap) (hln : bs.length ≤ 1000000) :
    Calls Tryd.prog 19 #[.slice a bs.length cap] w fun e w' => ∃ v, e = .returned v ∧ w'.ownsRow w.heap.size 23 5 v (decP bs).length (flatI (decP bs)) ∧ Below w.heap.size w w' := by
  by_cases h8 : bs.length < 8
  · rw [decAll_few h8]
    exact (callsIn_wide.1 (decode_few_in w h8)).mono fun e w' h => ⟨_, h.1, World.ownsRow_nil _ _ _ _, h.2⟩
  · rcases hr with rfl | ⟨q, c, rfl, hq, hr⟩
    · simp at h8
    · exact decode_some w hq hr (by omega) hcap hln

end Go.Proofs.YtpjgiecljjfdiaaDoor
