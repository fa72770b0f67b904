/- A control: the lanes behind one (a range over a function, left at the first open one). Conditions: those stated in each theorem. -/
import Derived.Test.YtncepiaacadcpaaLanA
import Derived.Test.YtncepiaacadcpaaEachT
import Derived.TacticsInMore
import Derived.LoopNIn
import Derived.LoopIn
namespace Go.Proofs.Ytncepiaacadcpaa
open Go.RowKit Go.BigFrame
attribute [local go_sem] Oper.semAt_some
attribute [local simp] wide_fn

set_option maxHeartbeats 400000 in
theorem rest_any (k : Nat) (w : World) : Calls Try.prog 38 #[.int .i64 k] w fun e w' => e = .returned (.func (.func 40) #[] #[.pointer (some ⟨w.heap.size, 0, none⟩)]) ∧ w.alloc (.cells #[.int .i64 k] 3) = w' := by
  go_enter Try.func38, Try.ntmps38
  go_wp2
  go_ret
  exact ⟨rfl, rfl⟩

theorem range_at {a n i : Nat} (h : i < n) : List.range' a n = List.range' a i ++ (a + i) :: List.range' (a + i + 1) (n - (i + 1)) := by
  rw [← List.range'_succ]
  have := List.range'_append_1 (s := a) (m := i) (n := n - (i + 1) + 1)
  rw [this]; congr 1; omega

set_option maxRecDepth 100000 in
set_option maxHeartbeats 2000000 in
/-- The lanes behind one, told in order. -/
theorem rest1_each (l Bc k : Nat) (w : World) (hk : k ≤ 3) (hB : w.cell? ⟨Bc, 0, none⟩ = some (.int .i64 k)) (Kp : World → World → Prop) :
    SeqEach Fence.wide Try.prog 40 #[.pointer (some ⟨Bc, 0, none⟩)] (fun x : Nat => #[.int .i64 x]) Kp (List.range' (k + 1) (4 - k)) w l := by
  intro m J Jx W hW _ hJ hJx hY h0
  have c0 : W.cell? ⟨Bc, 0, none⟩ = some (.int .i64 k) := (hW.cell (World.block_lt_of_cell? _ _ hB)).trans hB
  have HY := Lib.hid hY; clear hY
  clear hB hJ hJx hW
  refine callsIn_of_wp Try.func40 rfl trivial ?_ rfl
  simp only [Try.ntmps40, List.size_toArray, List.length_cons, List.length_nil, Nat.reduceAdd, Nat.reduceSub, Array.replicate_succ, Array.replicate_zero, List.push_toArray, List.append_toArray, List.nil_append, List.cons_append]
  gi_wp2
  clear c0
  gi_loopw [3] (fun i wr => ∃ n : Nat, k + 1 ≤ n ∧ n ≤ 5 ∧ i = .int .i64 n ∧ J (List.range' (k + 1) (n - (k + 1))) wr)
    (fun i _ => 5 - (intOf i).toNat)
  case atStart => exact ⟨k + 1, by omega, by omega, by simp, by rw [Nat.sub_self]; exact h0⟩
  case round =>
    obtain ⟨n, hn1, hn2, rfl, hJs⟩ := hrel
    by_cases hlt : n ≤ 4
    · have hsp := range_at (a := k + 1) (n := 4 - k) (i := n - (k + 1)) (by omega)
      rw [show k + 1 + (n - (k + 1)) = n from by omega] at hsp
      obtain ⟨fn, tmps, assign, body, hy, hR⟩ := HY.out (m - 1) _ n _ wr hsp hJs
      have HR := Lib.hid hR; clear hR
      have hsn : List.range' (k + 1) (n + 1 - (k + 1)) = List.range' (k + 1) (n - (k + 1)) ++ [n] := by
        rw [show n + 1 - (k + 1) = n - (k + 1) + 1 from by omega, List.range'_1_concat]
        congr 2; omega
      have Hsn := Lib.hid hsn; clear hsn
      have Hsp := Lib.hid hsp; clear hsp
      clear hJs
      gi_wp2
      refine ⟨fun h => (by cases h), HR.out.mono ?_⟩
      rintro e W3 (⟨rfl, hJ3, _⟩ | ⟨rfl, hJx3, _⟩)
      · have hJ4 := Lib.hid hJ3; clear hJ3
        gi_wp2
        go_roundw
        case rel => exact ⟨n + 1, by omega, by omega, by simp, by rw [Hsn.out]; exact hJ4.out⟩
        case measure => simp [intOf]; omega
      · gi_wp2
        refine bodyPost_ret (results_none rfl _ _ _) rfl ?_
        exact ⟨⟨_, rfl⟩, .inr ⟨_, ⟨_, (by rw [Hsp.out, List.append_assoc]; rfl)⟩, hJx3⟩⟩
    · obtain rfl : n = 5 := by omega
      gi_wp2
      go_end0
      exact ⟨⟨_, rfl⟩, .inl (by rw [show 4 - k = 5 - (k + 1) from by omega]; exact hJs)⟩

/-- Between two rounds of behind. -/
def BhI (c : Ct) (k n0 : Nat) (W0 : World) (pre : List Nat) (W : World) : Prop := (Tch (fun b => b = n0 + 1) W0 W ∧ Holds W (n0 + 1) 3 [.int .i64 ((k + pre.length : Nat) : Int)]) ∧ ∀ i, k < i → i ≤ k + pre.length → i ≠ 4 ∧ c.lim i = 0
/-- Where it has found one. -/
def BhX (c : Ct) (k n0 : Nat) (W0 : World) (cd : Code) (_ : List Nat) (W : World) : Prop := (Tch (fun b => b = n0 + 1) W0 W ∧ Holds W (n0 + 1) 3 [.int .i64 ((c.from (k + 1) : Nat) : Int)]) ∧ cd = .exit 0
theorem bhI_own {c : Ct} {k n0 : Nat} {W0 : World} : OwnFrom W0.heap.size (BhI c k n0 W0) :=
  OwnFrom.and (OwnFrom.and (ownFrom_tch (Nat.le_refl _)) (ownFrom_holds _ _ _ (fun pre : List Nat => [.int .i64 ((k + pre.length : Nat) : Int)]))) (fun _ _ _ _ hs _ _ => hs)
theorem bhX_own {c : Ct} {k n0 : Nat} {W0 : World} (cd : Code) : OwnFrom W0.heap.size (BhX c k n0 W0 cd) :=
  OwnFrom.and (OwnFrom.and (ownFrom_tch (Nat.le_refl _)) (ownFrom_holds _ _ _ _)) (fun _ _ _ _ hs _ _ => hs)
theorem range_pre' {a n x : Nat} {pre rest : List Nat} (h : List.range' a n = pre ++ x :: rest) : x = a + pre.length ∧ pre.length < n := by
  have h1 := congrArg (fun s => s[pre.length]?) h
  have h2 : pre.length < n := by
    have := congrArg List.length h
    simp at this; omega
  simp [h2] at h1
  omega

set_option maxRecDepth 100000 in
set_option maxHeartbeats 2000000 in
theorem behind_in {w : World} {a : Nat} {c : Ct} (h : CtAt w a c) (k : Nat) (hk : k ≤ 3) :
    CallsIn Fence.wide 9 Try.prog 32 #[.pointer (some ⟨a, 0, none⟩), .int .i64 k] w fun e w' => e = .returned (.int .i64 ((c.from (k + 1) : Nat) : Int)) ∧ Below w.heap.size w w' := by
  have hB0 : Below w.heap.size w (((w.alloc (.cells #[.pointer (some ⟨a, 0, none⟩)] 25)).alloc (.cells #[.int .i64 k] 3)).alloc (.cells #[.int .i64 k] 3)) := (((Below.refl _ w).alloc (Nat.le_refl _) _).alloc (by simp) _).alloc (by simp; omega) _
  have b0 : Holds (((w.alloc (.cells #[.pointer (some ⟨a, 0, none⟩)] 25)).alloc (.cells #[.int .i64 k] 3)).alloc (.cells #[.int .i64 k] 3)) w.heap.size 25 [.pointer (some ⟨a, 0, none⟩)] := ((Holds.new w 25 [.pointer (some ⟨a, 0, none⟩)]).alloc _).alloc _
  have b1 : Holds (((w.alloc (.cells #[.pointer (some ⟨a, 0, none⟩)] 25)).alloc (.cells #[.int .i64 k] 3)).alloc (.cells #[.int .i64 k] 3)) (w.heap.size + 1) 3 [.int .i64 k] := by
    have := Holds.new (w.alloc (.cells #[.pointer (some ⟨a, 0, none⟩)] 25)) 3 [.int .i64 k]
    simp only [World.size_alloc] at this
    exact this.alloc _
  have b2 : Holds (((w.alloc (.cells #[.pointer (some ⟨a, 0, none⟩)] 25)).alloc (.cells #[.int .i64 k] 3)).alloc (.cells #[.int .i64 k] 3)) (w.heap.size + 2) 3 [.int .i64 k] := by
    have := Holds.new ((w.alloc (.cells #[.pointer (some ⟨a, 0, none⟩)] 25)).alloc (.cells #[.int .i64 k] 3)) 3 [.int .i64 k]
    simp only [World.size_alloc] at this
    exact this
  have hsz : (((w.alloc (.cells #[.pointer (some ⟨a, 0, none⟩)] 25)).alloc (.cells #[.int .i64 k] 3)).alloc (.cells #[.int .i64 k] 3)).heap.size = w.heap.size + 3 := by simp
  have hc0 : CtAt (((w.alloc (.cells #[.pointer (some ⟨a, 0, none⟩)] 25)).alloc (.cells #[.int .i64 k] 3)).alloc (.cells #[.int .i64 k] 3)) a c := h.below hB0
  have hal := h.head.lt
  clear h
  have HC := Lib.hid hc0; clear hc0
  have HB0 := Lib.hid hB0; clear hB0
  have B0 := Lib.hid b0; clear b0
  have B1 := Lib.hid b1; clear b1
  have B2 := Lib.hid b2; clear b2
  have Hsz := Lib.hid hsz; clear hsz
  refine callsIn_of_wp_marks Try.func32 rfl trivial ?_ rfl
  simp only [Try.ntmps32, List.size_toArray, List.length_cons, List.length_nil, Nat.reduceAdd, Nat.reduceSub, Array.replicate_succ, Array.replicate_zero, List.push_toArray, List.append_toArray, List.nil_append, List.cons_append]
  gi_wp2_with (gi_at_call 38; refine (callsIn_wide.2 (rest_any k _)).mono ?_; rintro e w2 ⟨rfl, rfl⟩)
  generalize ((w.alloc (.cells #[.pointer (some ⟨a, 0, none⟩)] 25)).alloc (.cells #[.int .i64 k] 3)).alloc (.cells #[.int .i64 k] 3) = W0 at *
  refine each_own rfl rfl (gf := 40) (lb := #[.pointer (some ⟨w.heap.size + 1 + 1, 0, none⟩)]) rfl trivial (enters_of Try.func40 (by kernel_rfl) rfl)
    (rest1_each _ (w.heap.size + 1 + 1) k W0 hk (B2.out.cell (i := 0) rfl) (KpC (fun b => W0.heap.size ≤ b ∨ b = w.heap.size + 1))) kpC_t (kpC_b (.inl (by omega))) (fun _ => rfl)
    (BhI c k w.heap.size W0) (BhX c k w.heap.size W0) bhI_own bhX_own ⟨⟨Tch.refl _ _, B1.out⟩, fun i h1 h2 => by simp at h2; omega⟩ ?round ?done ?stop
  case round =>
    rintro pre x rest W hx hl hi
    obtain ⟨rfl, hlt⟩ := range_pre' hx
    unfold RoundOwes
    clear hx hl
    have Hi := Lib.hid hi; clear hi
    have c1 := Hi.out.1.2.cell (i := 0) rfl
    have f1 := Hi.out.1.2.free 0
    have hsW : W0.heap.size ≤ W.heap.size := Hi.out.1.1.size
    have hs0 := Hsz.out
    generalize hxx : k + 1 + pre.length = x at *
    gi_wp2
    have hT1 : Tch (fun b => b = w.heap.size + 1) W (W.setCell ⟨w.heap.size + 1, 0, none⟩ (.int .i64 (x : Int))) := Tch.setCell (C := fun b => b = w.heap.size + 1) (Tch.refl _ W) (p := ⟨w.heap.size + 1, 0, none⟩) (.inl rfl) _
    refine ⟨hT1.keepsFrom (fun b o h1 h2 _ => by omega), hT1.mono (fun _ _ h => .inr h), fun V => Tch (fun b => b = w.heap.size + 1) W0 V ∧ Holds V (w.heap.size + 1) 3 [.int .i64 (x : Int)], OwnFrom.and (ownFrom_tch (Nat.le_refl _)) (ownFrom_holds _ _ _ (fun _ : Unit => [.int .i64 (x : Int)])), ⟨Hi.out.1.1.trans hT1, Hi.out.1.2.set 0 _⟩, ?_⟩
    rintro W2 - - ⟨hT2, hb2⟩
    have q0 : W2.cell? ⟨w.heap.size, 0, none⟩ = some (.pointer (some ⟨a, 0, none⟩)) := (hT2.holds (fun e => by omega) B0.out).cell (i := 0) rfl
    have q1 := hb2.cell (i := 0) rfl
    have hco := open_any (HC.out.frame hT2 (fun e => by omega)) x (by omega) (by omega)
    have HCO := Lib.hid hco; clear hco
    have Hcl := Lib.hid Hi.out.2
    have HT2 := Lib.hid hT2; clear hT2
    have Hb2 := Lib.hid hb2; clear hb2
    clear hT1 c1 f1 Hi
    by_cases ho : x = 4 ∨ c.lim x ≠ 0
    · have hd : decide (x = 4 ∨ c.lim x ≠ 0) = true := by simpa using ho
      have hfr : Hid (c.from (k + 1) = x) := Lib.hid <| Ct.from_at (by omega) (by omega) ho (fun i h1 h2 => (Hcl.out i h1 (by omega)).2)
      rw [hd] at HCO
      have Ho := Lib.hid ho; clear ho hd
      gi_wp2_with (gi_at_call 39; refine (callsIn_wide.2 HCO.out).mono ?_; rintro e w3 ⟨rfl, rfl⟩)
      exact ⟨⟨Nat.le_refl _, fun _ _ _ h _ => h⟩, Tch.refl _ _, ⟨HT2.out, by rw [hfr.out]; exact Hb2.out⟩, rfl⟩
    · have hd : decide (x = 4 ∨ c.lim x ≠ 0) = false := by simpa using ho
      rw [hd] at HCO
      have Ho := Lib.hid ho; clear ho hd
      gi_wp2_with (gi_at_call 39; refine (callsIn_wide.2 HCO.out).mono ?_; rintro e w3 ⟨rfl, rfl⟩)
      refine ⟨⟨Nat.le_refl _, fun _ _ _ h _ => h⟩, Tch.refl _ _, ⟨HT2.out, ?_⟩, fun i h1 h2 => ?_⟩
      · rw [List.length_append, List.length_singleton, show k + (pre.length + 1) = x from by omega]; exact Hb2.out
      · simp at h2
        by_cases hi : i ≤ k + pre.length
        · exact Hcl.out i h1 hi
        · obtain rfl : i = x := by omega
          have := Ho.out; constructor <;> omega
  case done =>
    rintro W ⟨-, h⟩ -
    exact absurd rfl (h 4 (by omega) (by simp; omega)).1
  case stop =>
    rintro cd pre W - ⟨⟨hT, hb⟩, rfl⟩ hK
    have c1 := hb.cell (i := 0) rfl
    have hle : w.heap.size ≤ W0.heap.size := by have := Hsz.out; omega
    have hbel : Below w.heap.size w W := HB0.out.trans (hT.below hle (fun b h => by omega))
    have Hbel := Lib.hid hbel; clear hbel
    have HK := Lib.hid hK; clear hK
    have HT := Lib.hid hT; clear hT hb
    gi_wp2
    refine leaves_mark HK.out ⟨_, results_tmp rfl _ _ _, rfl, Hbel.out.trans (belowK_b (w := W0) hle W W0.heap.size _ _ (Nat.le_refl _) HK.out rfl rfl)⟩

theorem behind_any {w : World} {a : Nat} {c : Ct} (h : CtAt w a c) (k : Nat) (hk : k ≤ 3) :
    Calls Try.prog 32 #[.pointer (some ⟨a, 0, none⟩), .int .i64 k] w fun e w' => e = .returned (.int .i64 ((c.from (k + 1) : Nat) : Int)) ∧ Below w.heap.size w w' :=
  callsIn_wide.1 (behind_in h k hk)

end Go.Proofs.Ytncepiaacadcpaa
