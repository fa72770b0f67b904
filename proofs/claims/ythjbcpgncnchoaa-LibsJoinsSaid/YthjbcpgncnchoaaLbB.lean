/- A writer: add, name, branch. Conditions: those stated in each theorem. -/
import Derived.Test.YthjbcpgncnchoaaLbA
import Derived.Deep.RegionLaw
namespace Go.Proofs.Ythjbcpgncnchoaa
open Go.RowKit Go.BigFrame Go.Maps

theorem row_form {w : World} {lo : Nat} {e : TypeId} {size : Nat} {v : Value} {n : Nat} {xs : List Value} (h : w.ownsRow lo e size v n xs) : ∃ (ad : Option Addr) (cap : Nat), v = .slice ad n cap := by
  rcases owns_form h with ⟨rfl, h2, _⟩ | ⟨g, cap, rfl, _⟩
  · exact ⟨none, 0, by rw [h2]⟩
  · exact ⟨_, _, rfl⟩
theorem own_ad {ad : Option Addr} {n cap k : Nat} (e : ad.map (·.block) = some k) : (Value.slice ad n cap).ownBlock = some k := by cases ad <;> simp_all [Value.ownBlock]

section
variable {w w0 : World} {B N b : Nat} {P : Pl} {x : WV}
set_option maxRecDepth 100000 in
set_option maxHeartbeats 2000000 in
theorem add_any (h : WO B P N w0 w b x) (i : In) (hN : N ≤ 100000) : Calls Try.prog 102 #[.pointer (some ⟨b, 0, none⟩), i.val] w fun e w' => e = .returned (.tuple #[]) ∧ WO B P (N + 1) w0 w' b (x.add i) := by
  obtain ⟨cv, gv, mb, h1⟩ := h.at_
  obtain ⟨op, a, b2, c, imm⟩ := i
  obtain ⟨ad, cap, rfl⟩ := row_form h1.code
  have H := Lib.hid h; clear h
  have H1 := Lib.hid h1
  have hln := h1.ln
  have HN := Lib.hid hN; clear hN
  have Hln := Lib.hid hln; clear hln
  have hB0 : Below w.heap.size w (w.alloc (.cells #[.int .i64 op, .int .i64 a, .int .i64 b2, .int .i64 c, .int .i64 imm] 40)) := (Below.refl _ w).alloc (Nat.le_refl _) _
  have hX : Holds (w.alloc (.cells #[.int .i64 op, .int .i64 a, .int .i64 b2, .int .i64 c, .int .i64 imm] 40)) w.heap.size 40 (In.cells ⟨op, a, b2, c, imm⟩) := Holds.new w 40 (In.cells ⟨op, a, b2, c, imm⟩)
  have hs0 : (w.alloc (.cells #[.int .i64 op, .int .i64 a, .int .i64 b2, .int .i64 c, .int .i64 imm] 40)).heap.size = w.heap.size + 1 := by simp
  have hbw := h1.head.lt
  go_enter Try.func102, Try.ntmps102
  unfold In.val
  go_wp2
  generalize w.alloc (.cells #[.int .i64 op, .int .i64 a, .int .i64 b2, .int .i64 c, .int .i64 imm] 40) = W at *
  have Hs0 := Lib.hid hs0; clear hs0
  have hL := h1.head.below hB0
  have hR : W.ownsRow 0 40 5 (.slice ad x.code.length cap) x.code.length (flatI x.code) := owns_same h1.code (fun g e => hB0.block g (owns_lt h1.code e).2)
  clear h1
  have HB0 := Lib.hid hB0; clear hB0
  have k0 := hL.cell (i := 4) rfl
  have x0 := hX.cell (i := 0) rfl
  have x1 := hX.cell (i := 1) rfl
  have x2 := hX.cell (i := 2) rfl
  have x3 := hX.cell (i := 3) rfl
  have x4 := hX.cell (i := 4) rfl
  have Hbw := Lib.hid hbw; clear hbw
  have HL := Lib.hid hL; clear hL
  have HR := Lib.hid hR; clear hR
  have HX := Lib.hid hX; clear hX
  obtain ⟨i0, hi0, hz0, hz1, hz2⟩ := info_parts Try.infoIn
  have Hi := Lib.hid hi0; clear hi0
  have Hz0 := Lib.hid hz0; clear hz0
  have Hz1 := Lib.hid hz1; clear hz1
  have Hz2 := Lib.hid hz2; clear hz2
  have HoW := Lib.hid (show (W.alloc (.cells #[.int .i64 op, .int .i64 a, .int .i64 b2, .int .i64 c, .int .i64 imm] 40)).drew.ownsRow 0 40 5 (.slice ad x.code.length cap) x.code.length (flatI x.code) from owns_same HR.out (fun g e => Below.heap_alloc W _ g (owns_lt HR.out e).2))
  have hLn : ∀ k, ad.map (·.block) = some k → k ≠ b := fun k e h => by
    subst h
    obtain ⟨d, hd⟩ := owns_kind HR.out (own_ad e)
    have := HL.out
    unfold Holds at this
    rw [hd] at this
    cases this
  have HLn := Lib.hid hLn; clear hLn
  have HK : Hid (∀ w1, World.grownBy (W.alloc (.cells #[.int .i64 op, .int .i64 a, .int .i64 b2, .int .i64 c, .int .i64 imm] 40)).drew w1 (Value.slice ad x.code.length cap).ownBlock → w1.cell? ⟨b, 4, none⟩ = some (.slice ad x.code.length cap) ∧ w1.frozen? ⟨b, 4, none⟩ = false) := Lib.hid (fun w1 hg => by
    have ba : w1.heap[b]? = W.heap[b]? := (hg.block b (by show b < (W.alloc _).heap.size; rw [World.size_alloc]; have := HL.out.lt; omega) (fun e => HLn.out b (by cases ad <;> simp_all [Value.ownBlock]) rfl)).trans (Below.heap_alloc W _ b HL.out.lt)
    exact ⟨(World.cell?_of_block (a := ⟨b, 4, none⟩) ba).trans k0, (World.frozen?_of_block (a := ⟨b, 4, none⟩) ba).trans (HL.out.free 4)⟩)
  have hbW := HL.out.lt
  go_region_law ((refine step_append_lies _ (by rfl) _ _ _ (by rfl) 0 40 i0 _ 5 40 Try.underlying32 Hi.out Hz0.out Hz1.out Hz2.out rfl (by omega) (.slice ad x.code.length cap) x.code.length (flatI x.code) (by rfl) HoW.out ⟨W.heap.size, 0, none⟩ 1 1 [.int .i64 op, .int .i64 a, .int .i64 b2, .int .i64 c, .int .i64 imm] (by rfl) (by rfl) (World.news_of_block (cs := #[.int .i64 op, .int .i64 a, .int .i64 b2, .int .i64 c, .int .i64 imm]) (t := 40) (fr := (0, 0)) (new_block W _)) (by simp [Value.oneCell']) (by omega) (by have := Hln.out; have := HN.out; unfold maxLen; omega) (by have := Hln.out; have := HN.out; omega) (by simp) (W.heap.size + 1) (by simp) ?_; intro g cap' w3 hown3 hgrow hat hlt; have kk := (HK.out w3 hgrow).1; have kf := (HK.out w3 hgrow).2))
  all_goals
    have hT3 : Tch (fun k => (Value.slice ad x.code.length cap).ownBlock = some k) W w3 := ((Tch.refl _ W).alloc _).drew.grown hgrow (fun k e => .inl e)
    have hs3 := hT3.size
    have h1 : (w3.setCell ⟨b, 4, none⟩ (.slice (some ⟨g, 0, none⟩) (x.code.length + 1) cap')).ownsRow 0 40 5 (.slice (some ⟨g, 0, none⟩) (x.code.length + 1) cap') (x.code.length + 1) (flatI x.code ++ [.int .i64 op, .int .i64 a, .int .i64 b2, .int .i64 c, .int .i64 imm]) := owns_same hown3 (fun g' e => Below.heap_setCell w3 ⟨b, 4, none⟩ _ g' (fun e2 => by
      cases e
      rcases hat with h | h
      · exact HLn.out g (by cases ad <;> simp_all [Value.ownBlock]) e2
      · simp only at e2; have := HL.out.lt; omega))
    have hL3 : Holds w3 b 93 _ := hT3.holds (fun e => HLn.out b (by cases ad <;> simp_all [Value.ownBlock]) rfl) HL.out
    have hT : Tch (fun k => k = b ∨ k = mb ∨ (Value.slice ad x.code.length cap).ownBlock = some k ∨ gv.ownBlock = some k) w (w3.setCell ⟨b, 4, none⟩ (.slice (some ⟨g, 0, none⟩) (x.code.length + 1) cap')) := ((Tch.of_idle HB0.out).trans (hT3.mono (fun k _ e => .inr (.inr (.inl e))))).setCell (p := ⟨b, 4, none⟩) (.inl (.inl rfl)) _
    have hout : WO B P (N + 1) w0 (w3.setCell ⟨b, 4, none⟩ (.slice (some ⟨g, 0, none⟩) (x.code.length + 1) cap')) b (x.add ⟨op, a, b2, c, imm⟩) := by
      refine H.out.trans (WO.turned H1.out hT ⟨_, gv, mb, hL3.set 4 _, ?_, ?_, ?_, H1.out.lob, H1.out.lom, fun g' e => ?_, H1.out.log, ?_, ?_⟩)
      · simp only [WV.add, flatI_snoc, List.length_append, List.length_singleton]; exact h1
      · refine owns_same H1.out.goes (fun g' e => ((Below.heap_setCell w3 ⟨b, 4, none⟩ _ g' (fun e2 => ?_)).trans (hT3.block g' (by have := (owns_lt H1.out.goes e).2; have := HB0.out.size; omega) (fun e2 => ?_))).trans (HB0.out.block g' (owns_lt H1.out.goes e).2))
        · obtain ⟨d, hd⟩ := owns_kind H1.out.goes e
          have := H1.out.head
          subst e2
          unfold Holds at this; rw [hd] at this; cases this
        · obtain ⟨d, hd⟩ := owns_kind H1.out.goes e
          obtain ⟨d2, hd2⟩ := owns_kind H1.out.code e2
          rw [hd] at hd2; cases hd2
      · refine SpAt.more (H1.out.map.same (((Below.heap_setCell w3 ⟨b, 4, none⟩ _ mb (fun e2 => ?_)).trans (hT3.block mb (by have := H1.out.map.lt; have := HB0.out.size; omega) (fun e2 => ?_))).trans (HB0.out.block mb H1.out.map.lt))) (Nat.le_succ N)
        · have := H1.out.head
          simp only at e2
          exact H1.out.map.ne this e2.symm
        · obtain ⟨d2, hd2⟩ := owns_kind H1.out.code e2
          exact H1.out.map.ne hd2 rfl
      · cases e
        rcases hat with h | h
        · exact H1.out.loc g (by cases ad <;> simp_all [Value.ownBlock])
        · show B ≤ g
          have := H1.out.lt; have := Hs0.out; omega
      · have := Hln.out; simp only [WV.add, List.length_append, List.length_singleton]; omega
      · exact Nat.le_succ_of_le H1.out.gn
    have HO := Lib.hid hout
    clear hout hT hL3 h1 hT3 hown3 hgrow hat kk kf
    go_wp2
    refine ⟨rfl, .tuple #[], (by simp [results, Try.results102, go_sem]), rfl, HO.out⟩
end

end Go.Proofs.Ythjbcpgncnchoaa
