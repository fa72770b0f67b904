/- A writer: name, branch. Conditions: those stated in each theorem. -/
import Derived.Test.YthjbcpgncnchoaaLbB
namespace Go.Proofs.Ythjbcpgncnchoaa
open Go.RowKit Go.BigFrame Go.Maps

section
variable {w w0 : World} {B N b : Nat} {P : Pl} {x : WV}
set_option maxRecDepth 100000 in
set_option maxHeartbeats 2000000 in
theorem name_any (h : WO B P N w0 w b x) (s : Nm) (hs : s.length ≤ 100) (hN : N ≤ 100000) : Calls Try.prog 86 #[.pointer (some ⟨b, 0, none⟩), s.val] w fun e w' => e = .returned (.tuple #[]) ∧ WO B P (N + 1) w0 w' b (x.name s) := by
  obtain ⟨cv, gv, mb, h1⟩ := h.at_
  obtain ⟨ad, cap, rfl⟩ := row_form h1.code
  have H := Lib.hid h; clear h
  have H1 := Lib.hid h1
  have c4 := h1.head.cell (i := 4) rfl
  have c5 := h1.head.cell (i := 5) rfl
  clear h1
  have HN := Lib.hid hN; clear hN
  have Hs := Lib.hid hs; clear hs
  go_enter Try.func86, Try.ntmps86
  go_wp2
  go_still_tail 10, (by kernel_rfl)
  change wpList _ _ _ _ _ w.drew
  go_wp2_with (at_mapUpdate; refine sp_put rfl _ _ _ rfl mb N x.pl s x.code.length rfl rfl rfl (H1.out.map.same rfl) Hs.out (by have := H1.out.ln; have := HN.out; simp [Lit.wf, IntKind.min, IntKind.max, IntKind.signed, IntKind.bits]; omega) (by have := HN.out; unfold maxLen; omega) ?_; intro w2 hm2 hg2; have HM := Lib.hid hm2; have HG := Lib.hid hg2; clear hm2 hg2)
  refine ⟨rfl, .tuple #[], (by simp [results, Try.results86, go_sem]), rfl, ?_⟩
  have hT : Tch (fun k => k = b ∨ k = mb ∨ (Value.slice ad x.code.length cap).ownBlock = some k ∨ gv.ownBlock = some k) w w2 := ((Tch.refl _ w).drew).grown HG.out (fun k e => .inl (.inr (.inl (by cases e; rfl))))
  have hk : ∀ k, k < w.heap.size → k ≠ mb → w2.heap[k]? = w.heap[k]? := fun k hk hne => HG.out.block k hk (fun e => hne (by cases e; rfl))
  refine H.out.trans (WO.turned H1.out hT ⟨_, gv, mb, H1.out.head.same (hk b H1.out.head.lt (H1.out.map.ne H1.out.head)), owns_same H1.out.code (fun g e => hk g (owns_lt H1.out.code e).2 (fun e2 => ?_)), owns_same H1.out.goes (fun g e => hk g (owns_lt H1.out.goes e).2 (fun e2 => ?_)), HM.out, H1.out.lob, H1.out.lom, H1.out.loc, H1.out.log, Nat.le_succ_of_le H1.out.ln, Nat.le_succ_of_le H1.out.gn⟩)
  · obtain ⟨d, hd⟩ := owns_kind H1.out.code e
    exact H1.out.map.ne hd e2
  · obtain ⟨d, hd⟩ := owns_kind H1.out.goes e
    exact H1.out.map.ne hd e2

theorem add_lit (h : WO B P N w0 w b x) (op a b2 c imm : Int) (hN : N ≤ 100000) : Calls Try.prog 102 #[.pointer (some ⟨b, 0, none⟩), .agg #[.int .i64 op, .int .i64 a, .int .i64 b2, .int .i64 c, .int .i64 imm]] w fun e w' => e = .returned (.tuple #[]) ∧ WO B P (N + 1) w0 w' b (x.add ⟨op, a, b2, c, imm⟩) := add_any h ⟨op, a, b2, c, imm⟩ hN
/-- An instruction that goes to a name's place is told of. -/
def WV.gone (x : WV) (s : Nm) : WV := { x with go := x.go ++ [((x.code.length : Int), s)] }
set_option maxRecDepth 100000 in
set_option maxHeartbeats 2000000 in
theorem branch_any (h : WO B P N w0 w b x) (op a b2 : Int) (s : Nm) (hN : N ≤ 90000) : Calls Try.prog 103 #[.pointer (some ⟨b, 0, none⟩), .int .i64 op, .int .i64 a, .int .i64 b2, s.val] w fun e w' => e = .returned (.tuple #[]) ∧ WO B P (N + 2) w0 w' b (x.bra op a b2 s) := by
  obtain ⟨cv, gv, mb, h1⟩ := h.at_
  obtain ⟨ad, cap, rfl⟩ := row_form h1.goes
  obtain ⟨ad2, cap2, rfl⟩ := row_form h1.code
  have H := Lib.hid h; clear h
  have H1 := Lib.hid h1
  have hln := h1.ln
  have hgn := h1.gn
  have HN := Lib.hid hN; clear hN
  have Hln := Lib.hid hln; clear hln
  have Hgn := Lib.hid hgn; clear hgn
  have k4 := h1.head.cell (i := 4) rfl
  have k0 := h1.head.cell (i := 6) rfl
  have hbW := h1.head.lt
  obtain ⟨i0, hi0, hz0, hz1, hz2⟩ := info_parts Try.infoGo
  have Hi := Lib.hid hi0; clear hi0
  have Hz0 := Lib.hid hz0; clear hz0
  have Hz1 := Lib.hid hz1; clear hz1
  have Hz2 := Lib.hid hz2; clear hz2
  clear h1
  have HoW := Lib.hid (show (w.alloc (.cells #[.int .i64 x.code.length, .string ⟨s.toArray⟩] 95)).drew.ownsRow 0 95 2 (.slice ad x.go.length cap) x.go.length (flatG x.go) from owns_same H1.out.goes (fun g e => Below.heap_alloc w _ g (owns_lt H1.out.goes e).2))
  have hLn : ∀ k, ad.map (·.block) = some k → k ≠ b := fun k e h => by
    subst h
    obtain ⟨d, hd⟩ := owns_kind H1.out.goes (own_ad e)
    have := H1.out.head
    unfold Holds at this
    rw [hd] at this
    cases this
  have HLn := Lib.hid hLn; clear hLn
  have HK : Hid (∀ w1, World.grownBy (w.alloc (.cells #[.int .i64 x.code.length, .string ⟨s.toArray⟩] 95)).drew w1 (Value.slice ad x.go.length cap).ownBlock → w1.cell? ⟨b, 6, none⟩ = some (.slice ad x.go.length cap) ∧ w1.frozen? ⟨b, 6, none⟩ = false ∧ w1.cell? ⟨b, 4, none⟩ = some (.slice ad2 x.code.length cap2)) := Lib.hid (fun w1 hg => by
    have ba : w1.heap[b]? = w.heap[b]? := (hg.block b (by show b < (w.alloc _).heap.size; rw [World.size_alloc]; have := H1.out.head.lt; omega) (fun e => HLn.out b (by cases ad <;> simp_all [Value.ownBlock]) rfl)).trans (Below.heap_alloc w _ b H1.out.head.lt)
    exact ⟨(World.cell?_of_block (a := ⟨b, 6, none⟩) ba).trans k0, (World.frozen?_of_block (a := ⟨b, 6, none⟩) ba).trans (H1.out.head.free 6), (World.cell?_of_block (a := ⟨b, 4, none⟩) ba).trans k4⟩)
  go_enter Try.func103, Try.ntmps103
  unfold Nm.val
  go_wp2_with fail
  go_region_law ((refine step_append_lies _ (by rfl) _ _ _ (by rfl) 0 95 i0 _ 2 24 Try.underlying91 Hi.out Hz0.out Hz1.out Hz2.out rfl (by omega) (.slice ad x.go.length cap) x.go.length (flatG x.go) (by rfl) HoW.out ⟨w.heap.size, 0, none⟩ 1 1 [.int .i64 x.code.length, .string ⟨s.toArray⟩] (by rfl) (by rfl) (World.news_of_block (cs := #[.int .i64 x.code.length, .string ⟨s.toArray⟩]) (t := 95) (fr := (0, 0)) (new_block w _)) (by simp [Value.oneCell']) (by omega) (by have := Hgn.out; have := HN.out; unfold maxLen; omega) (by have := Hgn.out; have := HN.out; omega) (by simp) (w.heap.size + 1) (by simp) ?_; intro g cap' w3 hown3 hgrow hat hlt; have kk := (HK.out w3 hgrow).1; have kf := (HK.out w3 hgrow).2.1; have k5 := (HK.out w3 hgrow).2.2))
  all_goals
    have hT3 : Tch (fun k => (Value.slice ad x.go.length cap).ownBlock = some k) w w3 := ((Tch.refl _ w).alloc _).drew.grown hgrow (fun k e => .inl e)
    have hs3 := hT3.size
    have h1 : (w3.setCell ⟨b, 6, none⟩ (.slice (some ⟨g, 0, none⟩) (x.go.length + 1) cap')).ownsRow 0 95 2 (.slice (some ⟨g, 0, none⟩) (x.go.length + 1) cap') (x.go.length + 1) (flatG x.go ++ [.int .i64 x.code.length, .string ⟨s.toArray⟩]) := owns_same hown3 (fun g' e => Below.heap_setCell w3 ⟨b, 6, none⟩ _ g' (fun e2 => by
      cases e
      rcases hat with h | h
      · exact HLn.out g (by cases ad <;> simp_all [Value.ownBlock]) e2
      · simp only at e2; have := H1.out.head.lt; omega))
    have hL3 : Holds w3 b 93 _ := hT3.holds (fun e => HLn.out b (by cases ad <;> simp_all [Value.ownBlock]) rfl) H1.out.head
    have hT : Tch (fun k => k = b ∨ k = mb ∨ (Value.slice ad2 x.code.length cap2).ownBlock = some k ∨ (Value.slice ad x.go.length cap).ownBlock = some k) w (w3.setCell ⟨b, 6, none⟩ (.slice (some ⟨g, 0, none⟩) (x.go.length + 1) cap')) := (hT3.mono (fun k _ e => .inr (.inr (.inr e)))).setCell (p := ⟨b, 6, none⟩) (.inl (.inl rfl)) _
    have hout : WO B P (N + 1) w0 (w3.setCell ⟨b, 6, none⟩ (.slice (some ⟨g, 0, none⟩) (x.go.length + 1) cap')) b (x.gone s) := by
      refine H.out.trans (WO.turned H1.out hT ⟨_, _, mb, hL3.set 6 _, ?_, ?_, ?_, H1.out.lob, H1.out.lom, H1.out.loc, fun g' e => ?_, Nat.le_succ_of_le H1.out.ln, ?_⟩)
      · refine owns_same H1.out.code (fun g' e => ((Below.heap_setCell w3 ⟨b, 6, none⟩ _ g' (fun e2 => ?_)).trans (hT3.block g' (owns_lt H1.out.code e).2 (fun e2 => ?_))))
        · obtain ⟨d, hd⟩ := owns_kind H1.out.code e
          have := H1.out.head
          subst e2
          unfold Holds at this; rw [hd] at this; cases this
        · obtain ⟨d, hd⟩ := owns_kind H1.out.code e
          obtain ⟨d2, hd2⟩ := owns_kind H1.out.goes e2
          rw [hd] at hd2; cases hd2
      · simp only [WV.gone, flatG_snoc, List.length_append, List.length_singleton]; exact h1
      · refine SpAt.more (H1.out.map.same (((Below.heap_setCell w3 ⟨b, 6, none⟩ _ mb (fun e2 => ?_)).trans (hT3.block mb H1.out.map.lt (fun e2 => ?_))))) (Nat.le_succ N)
        · have := H1.out.head
          simp only at e2
          exact H1.out.map.ne this e2.symm
        · obtain ⟨d2, hd2⟩ := owns_kind H1.out.goes e2
          exact H1.out.map.ne hd2 rfl
      · cases e
        rcases hat with h | h
        · exact H1.out.log g (by cases ad <;> simp_all [Value.ownBlock])
        · show B ≤ g
          have := H1.out.lt; omega
      · have := Hgn.out; simp only [WV.gone, List.length_append, List.length_singleton]; omega
    have HO := Lib.hid hout
    clear hout hT hL3 h1 hT3 hown3 hgrow hat kk kf k5
    go_wp2_with ((go_at_call 102; (with_reducible refine (add_lit HO.out op a b2 0 0 (by have := HN.out; omega)).mono ?_); rintro e w4 ⟨rfl, h⟩; have HF := Lib.hid h; clear h))
    refine ⟨rfl, .tuple #[], (by simp [results, Try.results103, go_sem]), rfl, HF.out⟩

end

end Go.Proofs.Ythjbcpgncnchoaa
