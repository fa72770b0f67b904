/- What is said is read as it was: the law's walk. Conditions: those stated in each theorem. -/
import Derived.Test.YtpjgiecljjfdiaaDoorAlx
namespace Go.Proofs.YtpjgiecljjfdiaaDoor
open Go.RowKit Go.BigFrame

@[local go_sem ↓ high] theorem same_inv (a b c e f : Int) (w : World) : (Op.equalIn 10000 23 (.agg #[.int .i64 a, .int .i64 b, .int .i64 c, .int .i64 e, .int .i64 f]) (.agg #[.int .i64 a, .int .i64 b, .int .i64 c, .int .i64 e, .int .i64 f])).run Tryd.prog w = .ok true w := by
  rw [same_in ⟨a, b, c, e, f⟩ ⟨a, b, c, e, f⟩]; simp

theorem text_len (i : In) (hi : i.Ok) : (textP i).length ≤ 200 := by
  have key : ∀ ks : List Nat, (textNums i ks).length ≤ 22 * ks.length := fun ks => by
    induction ks with
    | nil => simp [textNums]
    | cons k ks ih =>
      have : textNums i (k :: ks) = 32 :: (Lib.itoa (i.get k) ++ textNums i ks) := by simp [textNums]
      rw [this]
      have := itoa_len _ (hi.get k)
      simp; omega
  have h1 := key (placesP (mask (formP i)))
  have h2 := places_len (mask (formP i))
  have h3 := word_len (formP i)
  unfold textP
  rw [List.length_append]; omega

set_option maxRecDepth 100000 in
set_option maxHeartbeats 1000000 in
theorem said_any (i : In) (hi : i.Ok) (s : ByteArray) (w : World) (h : Std w) : Calls Tryd.prog 7 #[i.val, .string s] w fun e w' => e = .returned (.bool true) ∧ Below w.heap.size w w' := by
  have hal := fun (W : World) (hb : Below w.heap.size w W) => alive_any W (h.below hb)
  have hss : (⟨s.data.toList.toArray⟩ : ByteArray) = s := by simp
  have hsl : s.data.toList.length = s.size := by simp
  by_cases hlong : 1000 < s.size
  · have hlg : (1000 : Int) < (s.size : Int) := by omega
    have Hal := Lib.hid hal; clear hal
    have Hs := Lib.hid hss; clear hss hsl
    obtain ⟨op, a, b, c, imm⟩ := i
    go_enter Tryd.func7, Tryd.ntmps7
    unfold In.val
    go_wp2_with (go_at_call 21; refine (Hal.out _ ((Below.refl _ w).alloc (Nat.le_refl _) _)).mono ?_; rintro e w2 ⟨rfl, hb2⟩; have Hb2 := Lib.hid (((Below.refl _ w).alloc (Nat.le_refl _) _ : Below w.heap.size w _).trans (hb2.mono (by simp))); clear hb2)
    go_ret
    exact ⟨rfl, Hb2.out⟩
  · have hlg : ¬ (1000 : Int) < (s.size : Int) := by omega
    have htx := fun (W : World) (hb : Below w.heap.size w W) => text_std i hi (h.below hb)
    have hpt := fun (W : World) (hb : Below w.heap.size w W) => parse_std (textP i) (by have := text_len i hi; omega) (h.below hb)
    rw [parse_text i hi] at hpt
    have hps := fun (W : World) (hb : Below w.heap.size w W) => parse_std s.data.toList (by omega) (h.below hb)
    rw [hss] at hps
    generalize textP i = tl at *
    generalize (⟨tl.toArray⟩ : ByteArray) = T at *
    obtain ⟨op, a, b, c, imm⟩ := i
    simp only [In.val, parseVal] at htx hpt
    cases hp : parseP s.data.toList with
    | none =>
      rw [hp] at hps
      simp only [parseVal, In.val, In.zero] at hps
      clear hp
      have Hal := Lib.hid hal; clear hal
      have Htx := Lib.hid htx; clear htx
      have Hpt := Lib.hid hpt; clear hpt
      have Hps := Lib.hid hps; clear hps
      clear hi hss hsl hlong h
      go_enter Tryd.func7, Tryd.ntmps7
      unfold In.val
      go_wp2_with (first | (go_at_call 21; refine (Hal.out _ ((Below.refl _ w).alloc (Nat.le_refl _) _)).mono ?_; rintro e w2 ⟨rfl, hb2⟩; have hi2 := (Holds.new w 23 [.int .i64 op, .int .i64 a, .int .i64 b, .int .i64 c, .int .i64 imm]).below hb2; have c0 := hi2.cell (i := 0) rfl; have c1 := hi2.cell (i := 1) rfl; have c2 := hi2.cell (i := 2) rfl; have c3 := hi2.cell (i := 3) rfl; have c4 := hi2.cell (i := 4) rfl; have Hi2 := Lib.hid hi2; clear hi2; have Hb2 := Lib.hid (((Below.refl _ w).alloc (Nat.le_refl _) _ : Below w.heap.size w _).trans (hb2.mono (by simp))); clear hb2) | (go_at_call 16; with_reducible refine (Htx.out _ Hb2.out).mono ?_; rintro e w3 ⟨rfl, hb3⟩; have Hi3 := Lib.hid (Hi2.out.below hb3); have Hb3 := Lib.hid (Hb2.out.trans (hb3.mono Hb2.out.size)); clear hb3) | (go_at_call 14; with_reducible refine (Hpt.out _ Hb3.out).mono ?_; rintro e w4 ⟨rfl, hb4⟩; have hi4 := Hi3.out.below hb4; have d0 := hi4.cell (i := 0) rfl; have d1 := hi4.cell (i := 1) rfl; have d2 := hi4.cell (i := 2) rfl; have d3 := hi4.cell (i := 3) rfl; have d4 := hi4.cell (i := 4) rfl; have hl4 := hi4.lt; clear hi4; have Hb4 := Lib.hid (Hb3.out.trans (hb4.mono Hb3.out.size)); clear hb4) | (go_at_call 14; with_reducible refine (Hps.out _ (Hb4.out.alloc Hb4.out.size _)).mono ?_; rintro e w5 ⟨rfl, hb5⟩; have Hb5 := Lib.hid ((Hb4.out.alloc Hb4.out.size _ : Below w.heap.size w _).trans (hb5.mono (by have := Hb4.out.size; simp; omega))); clear hb5))
      refine bodyPost_ret (results_tmp rfl _ _ _) rfl ⟨?_, Hb5.out.alloc Hb5.out.size _⟩
      rfl
    | some y =>
      obtain ⟨hb1, hok⟩ := parse_back hp
      have hty := fun (W : World) (hb : Below w.heap.size w W) => text_std y hok (h.below hb)
      rw [hb1, hss] at hty
      rw [hp] at hps
      obtain ⟨yo, ya, yb, yc, yi⟩ := y
      simp only [parseVal, In.val] at hps hty
      have Hty := Lib.hid hty; clear hty
      clear hp hb1 hok
      have Hal := Lib.hid hal; clear hal
      have Htx := Lib.hid htx; clear htx
      have Hpt := Lib.hid hpt; clear hpt
      have Hps := Lib.hid hps; clear hps
      clear hi hss hsl hlong h
      go_enter Tryd.func7, Tryd.ntmps7
      unfold In.val
      go_wp2_with (first | (go_at_call 21; refine (Hal.out _ ((Below.refl _ w).alloc (Nat.le_refl _) _)).mono ?_; rintro e w2 ⟨rfl, hb2⟩; have hi2 := (Holds.new w 23 [.int .i64 op, .int .i64 a, .int .i64 b, .int .i64 c, .int .i64 imm]).below hb2; have c0 := hi2.cell (i := 0) rfl; have c1 := hi2.cell (i := 1) rfl; have c2 := hi2.cell (i := 2) rfl; have c3 := hi2.cell (i := 3) rfl; have c4 := hi2.cell (i := 4) rfl; have Hi2 := Lib.hid hi2; clear hi2; have Hb2 := Lib.hid (((Below.refl _ w).alloc (Nat.le_refl _) _ : Below w.heap.size w _).trans (hb2.mono (by simp))); clear hb2) | (go_at_call 16; with_reducible refine (Htx.out _ Hb2.out).mono ?_; rintro e w3 ⟨rfl, hb3⟩; have Hi3 := Lib.hid (Hi2.out.below hb3); have Hb3 := Lib.hid (Hb2.out.trans (hb3.mono Hb2.out.size)); clear hb3) | (go_at_call 14; with_reducible refine (Hpt.out _ Hb3.out).mono ?_; rintro e w4 ⟨rfl, hb4⟩; have hi4 := Hi3.out.below hb4; have d0 := hi4.cell (i := 0) rfl; have d1 := hi4.cell (i := 1) rfl; have d2 := hi4.cell (i := 2) rfl; have d3 := hi4.cell (i := 3) rfl; have d4 := hi4.cell (i := 4) rfl; have hl4 := hi4.lt; clear hi4; have Hb4 := Lib.hid (Hb3.out.trans (hb4.mono Hb3.out.size)); clear hb4) | (go_at_call 14; with_reducible refine (Hps.out _ (Hb4.out.alloc Hb4.out.size _)).mono ?_; rintro e w5 ⟨rfl, hb5⟩; have Hb5 := Lib.hid ((Hb4.out.alloc Hb4.out.size _ : Below w.heap.size w _).trans (hb5.mono (by have := Hb4.out.size; simp; omega))); clear hb5) | (go_at_call 16; with_reducible refine (Hty.out _ (Hb5.out.alloc Hb5.out.size _)).mono ?_; rintro e w6 ⟨rfl, hb6⟩; have Hb6 := Lib.hid ((Hb5.out.alloc Hb5.out.size _ : Below w.heap.size w _).trans (hb6.mono (by have := Hb5.out.size; simp; omega))); clear hb6))
      refine bodyPost_ret (results_tmp rfl _ _ _) rfl ⟨?_, Hb6.out⟩
      simp

end Go.Proofs.YtpjgiecljjfdiaaDoor
