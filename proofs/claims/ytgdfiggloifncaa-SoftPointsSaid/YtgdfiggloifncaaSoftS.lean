/- first: a memory's words at first. Conditions: those stated in each theorem. -/
import Derived.Test.YtgdfiggloifncaaSoftQ
namespace Go.Proofs.Ytgdfiggloifncaa
open Go.RowKit Go.BigFrame Go.Maps Go.ChangeMaps

/-- Words that came in. -/
def wordKinds : List CK := [⟨0, .u64⟩]
def wcell (n : Int) : List Value := [.int .u64 n]
theorem word_mk (vs : List Value) (h : Fit wordKinds vs) : ∃ x : Int, wcell x = vs ∧ W64 x := by
  obtain ⟨h1, h2⟩ := h
  match vs, h1 with
  | [a], _ =>
    obtain ⟨n, rfl, hn⟩ := h2 0 _ a rfl rfl
    exact ⟨n, rfl, hn⟩
theorem words_in {w : World} {a : Option Addr} {len : Nat} (h : Came w a len wordKinds) : ∃ xs : List Int, xs.length = len ∧ RowsIn w a 1 wcell xs ∧ ∀ x ∈ xs, W64 x := rows_in h (by simp [wordKinds]) word_mk
/-- The first n words, and the sequence. -/
def firstV (xs : List Int) (s : Int) (n : Nat) : Int → Int := fun a => if 8 ≤ a ∧ a < 8 + n then xs.getD (a - 8).toNat 0 else if a = 0 then s else 0
theorem firstV_0 (xs : List Int) (s : Int) : upd (upd (fun _ => 0) 0 s) 1 0 = firstV xs s 0 := by
  funext a
  unfold upd firstV
  by_cases h1 : a = 1
  · subst h1; simp
  · by_cases h0 : a = 0
    · subst h0; simp
    · simp [h1, h0]; omega
theorem firstV_step {xs : List Int} {s : Int} {n : Nat} {x : Int} (h : xs[n]? = some x) : upd (upd (firstV xs s n) (8 + n) 0) (8 + n) x = firstV xs s (n + 1) := by
  funext a
  unfold upd firstV
  by_cases h1 : a = 8 + (n : Int)
  · subst h1
    rw [if_pos rfl, if_pos (by omega)]
    rw [show (8 + (n : Int) - 8).toNat = n from by omega]
    simp [List.getD, h]
  · rw [if_neg h1, if_neg h1]
    by_cases h2 : 8 ≤ a ∧ a < 8 + (n : Int)
    · rw [if_pos h2, if_pos (by omega)]
    · rw [if_neg h2, if_neg (show ¬ (8 ≤ a ∧ a < 8 + ((n + 1 : Nat) : Int)) by omega)]
theorem firstV_none {xs : List Int} {s : Int} {n : Nat} (h : xs.length ≤ n) : upd (firstV xs s n) (8 + n) 0 = firstV xs s (n + 1) := by
  funext a
  unfold upd firstV
  by_cases h1 : a = 8 + (n : Int)
  · subst h1
    rw [if_pos rfl, if_pos (by omega)]
    rw [show (8 + (n : Int) - 8).toNat = n from by omega]
    simp [List.getD, h]
  · rw [if_neg h1]
    by_cases h2 : 8 ≤ a ∧ a < 8 + (n : Int)
    · rw [if_pos h2, if_pos (by omega)]
    · rw [if_neg h2, if_neg (show ¬ (8 ≤ a ∧ a < 8 + ((n + 1 : Nat) : Int)) by omega)]
theorem firstV_ok {xs : List Int} (hx : ∀ x ∈ xs, W64 x) {s : Int} (hs : W64 s) (n : Nat) : ∀ a, I64 a → W64 (firstV xs s n a) := fun a _ => by
  unfold firstV
  split
  · rcases h : xs[(a - 8).toNat]? with _ | y
    · simp [List.getD, h]; exact w64_0
    · simp [List.getD, h]; exact hx y (List.mem_of_getElem? h)
  · split
    · exact hs
    · exact w64_0

set_option maxRecDepth 100000 in
set_option maxHeartbeats 2000000 in
theorem first_any (ad : Option Addr) (xs : List Int) (cap : Nat) (s : Int) (n : Nat) (w : World) (hx : RowsIn w ad 1 wcell xs) (hg : ∀ x ∈ xs, W64 x) (hl : xs.length ≤ 1000) (hn : n ≤ 1000) :
    Calls Try.prog 32 #[.slice ad xs.length cap, .int .u64 s, .int .i64 n] w fun e w' => ∃ b, e = .returned (.map (some b)) ∧ w.heap.size ≤ b ∧ MmAt w' b (2 + 2 * n) (firstV xs (IntKind.u64.wrap (s * 2)) n) ∧ Below w.heap.size w w' := by
  have hmm := @run_makeMap Try.prog
  have HX := Lib.hid hx
  have HG := Lib.hid hg
  have HM := Lib.hid (MmAt.made w)
  have HB := Lib.hid ((Below.refl w.heap.size w).alloc (Nat.le_refl _) (.map #[] 0))
  clear hx hg
  go_enter Try.func32, Try.ntmps32
  go_wp2_with (first | (refine wpList_mput rfl _ _ _ (.inr rfl) _ _ _ 0 _ rfl rfl rfl HM.out (i64_lit (by omega)) (w64_wrap _) (by omega) ?_; intro w2 h2 ht2; have HM := Lib.hid h2; have HB := Lib.hid (HB.out.trans (ht2.below HB.out.size (fun k e => by omega))); clear h2 ht2) | (refine wpList_mput rfl _ _ _ (.inr rfl) _ _ _ 1 0 rfl rfl rfl HM.out (i64_lit (by omega)) w64_0 (by omega) ?_; intro w3 h3 ht3; have HM := Lib.hid h3; have HB := Lib.hid (HB.out.trans (ht3.below HB.out.size (fun k e => by omega))); clear h3 ht3) | fail)
  have hm0 := HM.out
  rw [firstV_0 xs] at hm0
  have HM := Lib.hid hm0; clear hm0
  go_loopw [8] (fun i wr => ∃ k : Nat, k ≤ n ∧ i = .int .i64 k ∧ MmAt wr w.heap.size (2 + 2 * k) (firstV xs (IntKind.u64.wrap (s * 2)) k) ∧ Below w.heap.size w wr) (fun i _ => n - (intOf i).toNat)
  case atStart => exact ⟨0, by omega, rfl, HM.out, HB.out⟩
  case round =>
    obtain ⟨k, hk, rfl, hm, hb⟩ := hrel
    have HM := Lib.hid hm; clear hm
    have HB := Lib.hid hb; clear hb
    by_cases hlt : k < n
    · have HA : Hid (I64 (8 + (k : Int))) := Lib.hid (i64_lit (by omega))
      by_cases hx2 : k < xs.length
      · obtain ⟨x, hxk⟩ : ∃ x, xs[k]? = some x := ⟨xs[k], List.getElem?_eq_getElem hx2⟩
        obtain ⟨q, c, rfl, hq, hr⟩ := HX.out.row hxk
        have hxw := HG.out x (List.mem_of_getElem? hxk)
        have HR : Hid (∀ V, Below w.heap.size w V → V.cell? ⟨q, c + k, none⟩ = some (.int .u64 x)) := Lib.hid (fun V hV => by
          rw [World.cell?_of_block (a := ⟨q, c + k, none⟩) (hV.block q hq)]
          have := hr 0 _ rfl
          rwa [Nat.mul_one, Nat.add_zero] at this)
        have HS := Lib.hid (firstV_step (s := IntKind.u64.wrap (s * 2)) hxk)
        have HW := Lib.hid hxw
        clear hr hxk hxw
        go_wp2_with (first | (refine wpList_mput rfl _ _ _ (.inl rfl) _ _ _ (8 + (k : Int)) 0 rfl rfl rfl HM.out HA.out w64_0 (by omega) ?_; intro w4 h4 ht4; have HM2 := Lib.hid h4; have HB2 := Lib.hid (HB.out.trans (ht4.below HB.out.size (fun k e => by omega))); have r0 := HR.out _ HB2.out; clear h4 ht4) | (refine wpList_mput rfl _ _ _ (.inl rfl) _ _ _ (8 + (k : Int)) x rfl rfl rfl HM2.out HA.out HW.out (by omega) ?_; intro w5 h5 ht5; have HM3 := Lib.hid h5; have HB3 := Lib.hid (HB2.out.trans (ht5.below HB2.out.size (fun k e => by omega))); clear h5 ht5))
        go_roundw
        case rel => exact ⟨k + 1, by omega, by go_num, by rw [← HS.out]; exact HM3.out.mono (by omega), HB3.out⟩
        case measure => simp [intOf]; omega
      · have HS := Lib.hid (firstV_none (s := IntKind.u64.wrap (s * 2)) (show xs.length ≤ k by omega))
        go_wp2_with (refine wpList_mput rfl _ _ _ (.inl rfl) _ _ _ (8 + (k : Int)) 0 rfl rfl rfl HM.out HA.out w64_0 (by omega) ?_; intro w4 h4 ht4; have HM2 := Lib.hid h4; have HB2 := Lib.hid (HB.out.trans (ht4.below HB.out.size (fun k e => by omega))); clear h4 ht4)
        go_roundw
        case rel => exact ⟨k + 1, by omega, by go_num, by rw [← HS.out]; exact HM2.out.mono (by omega), HB2.out⟩
        case measure => simp [intOf]; omega
    · have : k = n := by omega
      subst this
      go_wp2
      go_ret
      exact ⟨_, rfl, Nat.le_refl _, HM.out, HB.out⟩

end Go.Proofs.Ytgdfiggloifncaa
