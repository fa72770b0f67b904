/- A log: add, Read, Write. Conditions: those stated in each theorem. -/
import Derived.Test.YtgdfiggloifncaaLogB
namespace Go.Proofs.Ytgdfiggloifncaa
open Go.RowKit Go.BigFrame Go.Maps

section
variable {w w' : World} {a : Nat} {f : Lg} {S : Nat → Prop}

set_option maxHeartbeats 400000 in
theorem add_full {L off b : Nat} {pv : Value} {l : List Pr} (h0 : w.cell? ⟨L, off, none⟩ = some pv) (h : LsAt w pv b l) (x : Pr) (hl : 128 ≤ l.length) :
    Calls Try.prog 79 #[.pointer (some ⟨L, off, none⟩), .agg #[.int .i64 x.a, .int .u64 x.v]] w fun e w' => e = .returned (.int .i64 70) ∧ Below w.heap.size w w' := by
  obtain ⟨g, cap, rfl, -, -⟩ := h.row.form (by omega)
  clear h
  have hb := World.block_lt_of_cell? _ _ h0
  have d1 : decide ((128 : Int) ≤ (l.length : Int)) = true := by simp; omega
  have HB := Lib.hid ((Below.refl w.heap.size w).alloc (Nat.le_refl _) (.cells #[.int .i64 x.a, .int .u64 x.v] 84))
  go_enter Try.func79, Try.ntmps79
  go_wp2
  go_ret
  exact ⟨rfl, HB.out⟩

/-- What add leaves. -/
def AddOut (w : World) (L off b : Nat) (pv : Value) (cs : List Value) (l : List Pr) (x : Pr) (w' : World) : Prop :=
  ∃ pv', Holds w' L 89 (cs.set off pv') ∧ LsAt w' pv' b (l ++ [x]) ∧ (∀ g, pv'.ownBlock = some g → pv.ownBlock = some g ∨ (w.heap.size ≤ g ∧ g < w'.heap.size)) ∧ Tch (fun k => k = L ∨ k = b ∨ pv.ownBlock = some k) w w'

set_option maxRecDepth 100000 in
set_option maxHeartbeats 2000000 in
theorem add_ok {L off b : Nat} {pv : Value} {l : List Pr} {cs : List Value} (hL : Holds w L 89 cs) (h0 : cs[off]? = some pv) (h1 : cs[off + 1]? = some (.map (some b))) (h : LsAt w pv b l) (x : Pr) (hx : x.fit) (hp : posL l x.a = none) (hl : l.length < 128) :
    Calls Try.prog 79 #[.pointer (some ⟨L, off, none⟩), .agg #[.int .i64 x.a, .int .u64 x.v]] w fun e w' => e = .returned (.int .i64 0) ∧ AddOut w L off b pv cs l x w' := by
  have d1 : decide ((128 : Int) ≤ (l.length : Int)) = false := by simp; omega
  obtain ⟨xa, xv⟩ := x
  have c0 := hL.cell h0
  have c1 := hL.cell h1
  have hform : pv = .slice none 0 0 ∧ l.length = 0 ∨ ∃ g cap, pv = .slice (some ⟨g, 0, none⟩) l.length cap := by
    rcases owns_form h.row with ⟨rfl, h2, _⟩ | ⟨g, cap, rfl, _⟩
    · exact .inl ⟨rfl, h2⟩
    · exact .inr ⟨g, cap, rfl⟩
  obtain ⟨ad, cap, hpv⟩ : ∃ ad cap, pv = .slice ad l.length cap := by
    rcases hform with ⟨rfl, h2⟩ | ⟨g, cap, rfl⟩
    · exact ⟨none, 0, by rw [h2]⟩
    · exact ⟨_, _, rfl⟩
  subst hpv
  clear hform
  have hb := hL.lt
  have H := Lib.hid h; clear h
  have HL := Lib.hid hL; clear hL
  have Hx := Lib.hid hx; clear hx
  have Hp := Lib.hid hp; clear hp
  have H0 := Lib.hid h0; clear h0
  have H1 := Lib.hid h1; clear h1
  have Hl := Lib.hid hl; clear hl
  go_enter Try.func79, Try.ntmps79
  go_wp2
  have hB0 : Below w.heap.size w (w.alloc (.cells #[.int .i64 xa, .int .u64 xv] 84)) := (Below.refl _ w).alloc (Nat.le_refl _) _
  have hX : Holds (w.alloc (.cells #[.int .i64 xa, .int .u64 xv] 84)) w.heap.size 84 [.int .i64 xa, .int .u64 xv] := Holds.new w 84 [.int .i64 xa, .int .u64 xv]
  have hs0 : (w.alloc (.cells #[.int .i64 xa, .int .u64 xv] 84)).heap.size = w.heap.size + 1 := by simp
  have Hs0 := Lib.hid hs0; clear hs0
  generalize w.alloc (.cells #[.int .i64 xa, .int .u64 xv] 84) = W at *
  have hLW := HL.out.below hB0
  have c0 := hLW.cell H0.out
  have c1 := hLW.cell H1.out
  have x0 := hX.cell (i := 0) rfl
  have hmW := H.out.map.same (hB0.block b H.out.map.lt)
  have HB0 := Lib.hid hB0; clear hB0
  have HLW := Lib.hid hLW; clear hLW
  have HX := Lib.hid hX; clear hX
  have HmW := Lib.hid hmW; clear hmW
  go_still_tail 11, (by kernel_rfl)
  change wpList _ _ _ _ _ W.drew
  go_wp2_with (at_mapUpdate; refine wpList_put_pl rfl _ _ _ rfl b l ⟨xa, xv⟩ rfl rfl rfl HmW.out Hx.out.1 Hp.out (by have := Hl.out; omega) ?_; intro w2 hm2 hg2)
  have hLn : ∀ k, ad.map (·.block) = some k → k ≠ L := fun k e h => by
    subst h
    obtain ⟨c, hc⟩ := owns_kind H.out.row (k := k) (by cases ad <;> simp_all [Value.ownBlock])
    have := HL.out
    unfold Holds at this
    rw [hc] at this
    cases this
  have hLb : L ≠ b := H.out.map.ne HL.out
  have hbl : b < w.heap.size := H.out.map.lt
  have hr2 : w2.ownsRow 0 84 2 (.slice ad l.length cap) l.length (flatP l) := owns_same H.out.row (fun g e => (hg2.block g (by have := (owns_lt H.out.row e).2; have := Hs0.out; show g < W.heap.size; omega) (fun e2 => by
    cases e2
    obtain ⟨c, hc⟩ := owns_kind H.out.row e
    exact (H.out.map.ne hc) rfl)).trans (HB0.out.block g (owns_lt H.out.row e).2))
  have hL2 : Holds w2 L 89 cs := HLW.out.same (hg2.block L (by show L < W.heap.size; have := Hs0.out; omega) (fun e => hLb (by cases e; rfl)))
  have hX2 : Holds w2 w.heap.size 84 [.int .i64 xa, .int .u64 xv] := HX.out.same (hg2.block w.heap.size (by show _ < W.heap.size; have := Hs0.out; omega) (fun e => by cases e; omega))
  have hs2 : w.heap.size < w2.heap.size := hX2.lt
  have hT2 : Tch (fun k => k = L ∨ k = b ∨ (Value.slice ad l.length cap).ownBlock = some k) w w2 := ((Tch.of_idle HB0.out).trans ((Tch.refl _ W).drew.trans ((Tch.refl _ W.drew).grown hg2 (fun k e => .inl (.inr (.inl (by cases e; rfl)))))))
  have k0 := hL2.cell H0.out
  have k1 := hX2.cell (i := 0) rfl
  have k2 := hX2.cell (i := 1) rfl
  obtain ⟨i0, hi0, hz0, hz1, hz2⟩ := info_parts Try.infoPair
  have Hi := Lib.hid hi0; clear hi0
  have Hz0 := Lib.hid hz0; clear hz0
  have Hz1 := Lib.hid hz1; clear hz1
  have Hz2 := Lib.hid hz2; clear hz2
  have HL2 := Lib.hid hL2; clear hL2
  have HX2 := Lib.hid hX2; clear hX2
  have Hr2 := Lib.hid hr2; clear hr2
  have HT2 := Lib.hid hT2; clear hT2
  have Hm2 := Lib.hid hm2; clear hm2
  have HLn := Lib.hid hLn; clear hLn
  clear hg2 x0 c0 c1 hLb hbl
  have hLt := HL2.out.lt
  have HLt := Lib.hid hLt
  have HoW := Lib.hid (show (w2.alloc (.cells #[.int .i64 xa, .int .u64 xv] 84)).drew.ownsRow 0 84 2 (.slice ad l.length cap) l.length (flatP l) from owns_same Hr2.out (fun g e => Below.heap_alloc w2 _ g (owns_lt Hr2.out e).2))
  have HK : Hid (∀ w1, World.grownBy (w2.alloc (.cells #[.int .i64 xa, .int .u64 xv] 84)).drew w1 (Value.slice ad l.length cap).ownBlock → w1.cell? ⟨L, off, none⟩ = some (.slice ad l.length cap) ∧ w1.frozen? ⟨L, off, none⟩ = false) := Lib.hid (fun w1 hg => by
    have ba : w1.heap[L]? = w2.heap[L]? := (hg.block L (by show L < (w2.alloc _).heap.size; rw [World.size_alloc]; have := HLt.out; omega) (fun e => HLn.out L (by cases ad <;> simp_all [Value.ownBlock]) rfl)).trans (Below.heap_alloc w2 _ L HLt.out)
    exact ⟨(World.cell?_of_block (a := ⟨L, off, none⟩) ba).trans k0, (World.frozen?_of_block (a := ⟨L, off, none⟩) ba).trans (HL2.out.free off)⟩)
  go_frame
  go_region_law ((refine step_append_lies _ (by rfl) _ _ _ (by rfl) 0 84 i0 _ 2 16 Try.underlying27 Hi.out Hz0.out Hz1.out Hz2.out rfl (by omega) (.slice ad l.length cap) l.length (flatP l) (by rfl) HoW.out ⟨w2.heap.size, 0, none⟩ 1 1 [.int .i64 xa, .int .u64 xv] (by rfl) (by rfl) (World.news_of_block (cs := #[.int .i64 xa, .int .u64 xv]) (t := 84) (fr := (0, 0)) (new_block w2 _)) (by simp [Value.oneCell']) (by omega) (by have := Hl.out; unfold maxLen; omega) (by have := Hl.out; omega) (by simp) (w2.heap.size + 1) (by simp) ?_; intro g cap' w3 hown3 hgrow hat hlt; have kk := (HK.out w3 hgrow).1; have kf := (HK.out w3 hgrow).2))
  all_goals
    have hT3 : Tch (fun k => (Value.slice ad l.length cap).ownBlock = some k) w2 w3 := ((Tch.refl _ w2).alloc _).drew.grown hgrow (fun k e => .inl e)
    have hs3 := hT3.size
    have h1 : (w3.setCell ⟨L, off, none⟩ (.slice (some ⟨g, 0, none⟩) (l.length + 1) cap')).ownsRow 0 84 2 (.slice (some ⟨g, 0, none⟩) (l.length + 1) cap') (l.length + 1) (flatP l ++ [.int .i64 xa, .int .u64 xv]) := owns_same hown3 (fun g' e => Below.heap_setCell w3 ⟨L, off, none⟩ _ g' (fun e2 => by
      cases e
      rcases hat with h | h
      · exact HLn.out g (by cases ad <;> simp_all [Value.ownBlock]) e2
      · simp only at e2; omega))
    have hL3 : Holds w3 L 89 cs := hT3.holds (fun e => HLn.out L (by cases ad <;> simp_all [Value.ownBlock]) rfl) HL2.out
    have hm3 : MapAt (w3.setCell ⟨L, off, none⟩ (.slice (some ⟨g, 0, none⟩) (l.length + 1) cap')) b (l ++ [⟨xa, xv⟩]) := Hm2.out.same ((Below.heap_setCell w3 ⟨L, off, none⟩ _ b (Ne.symm (Hm2.out.ne HL2.out))).trans (hT3.block b Hm2.out.lt (fun e => by
      obtain ⟨c, hc⟩ := owns_kind Hr2.out e
      exact (Hm2.out.ne hc) rfl)))
    have hT : Tch (fun k => k = L ∨ k = b ∨ (Value.slice ad l.length cap).ownBlock = some k) w (w3.setCell ⟨L, off, none⟩ (.slice (some ⟨g, 0, none⟩) (l.length + 1) cap')) := (HT2.out.trans (hT3.mono (fun k _ e => .inr (.inr e)))).setCell (p := ⟨L, off, none⟩) (.inl (.inl rfl)) _
    have hout : AddOut w L off b (.slice ad l.length cap) cs l ⟨xa, xv⟩ (w3.setCell ⟨L, off, none⟩ (.slice (some ⟨g, 0, none⟩) (l.length + 1) cap')) := by
      refine ⟨_, hL3.set off _, ⟨?_, hm3, by have := Hl.out; simp; omega, fun y hy => ?_⟩, fun g' e => ?_, hT⟩
      · rw [flatP_snoc, List.length_append]; exact h1
      · rcases List.mem_append.1 hy with hy | hy
        · exact H.out.fit y hy
        · rw [List.mem_singleton.1 hy]; exact Hx.out
      · cases e
        refine hat.imp_right (fun e => ⟨show w.heap.size ≤ g by omega, by simpa using hlt⟩)
    have HO := Lib.hid hout
    clear hout hT hm3 hL3 h1 hT3 hown3 hgrow hat kk kf
    go_wp2
    go_ret
    exact ⟨rfl, HO.out⟩
end

end Go.Proofs.Ytgdfiggloifncaa
